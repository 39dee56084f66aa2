/-
  Layer 15: the contracts of allowed, Name, checkPeriod, Check, flags, and of the reference's Name and Check.
  Layer 15: the contracts of checkPeriod, Check, flags, and of the reference's Check.
  Layer 15: a set of classes in memory ('SetAt', 'Cls'), and the contracts of New, Len, Find, Get.
  Layer 15: the contract of Longer.
-/
import Derived.Test.YtmcnhcbibcjgnaaPkClsA
import Derived.Test.YtmcnhcbibcjgnaaPkStrI
import Derived.BigQuiet
import Derived.StillTailTactics
import Derived.Test.YtmcnhcbibcjgnaaPkMadeV
import Derived.Maps.OwnOps
import Derived.Lib.Hide
namespace Go.Proofs.Ytmcnhcbibcjgnaa
open Go.RowKit
set_option linter.unusedVariables false
set_option linter.unusedSimpArgs false

theorem chOk_iff (x : UInt8) : chOk x = ((decide (97 ≤ (x.toNat : Int)) && decide ((x.toNat : Int) ≤ 122)) || (decide (48 ≤ (x.toNat : Int)) && decide ((x.toNat : Int) ≤ 57)) || decide ((x.toNat : Int) = 45)) := by
  unfold chOk
  have e1 : decide (97 ≤ x.toNat) = decide (97 ≤ (x.toNat : Int)) := by rw [decide_eq_decide]; omega
  have e2 : decide (x.toNat ≤ 122) = decide ((x.toNat : Int) ≤ 122) := by rw [decide_eq_decide]; omega
  have e3 : decide (48 ≤ x.toNat) = decide (48 ≤ (x.toNat : Int)) := by rw [decide_eq_decide]; omega
  have e4 : decide (x.toNat ≤ 57) = decide ((x.toNat : Int) ≤ 57) := by rw [decide_eq_decide]; omega
  have e5 : decide (x.toNat = 45) = decide ((x.toNat : Int) = 45) := by rw [decide_eq_decide]; omega
  rw [e1, e2, e3, e4, e5]

theorem chOk_key (x : UInt8) {n : Int} (hn : (x.toNat : Int) = n) : (97 ≤ n ∧ n ≤ 122 ∧ chOk x = true) ∨ (97 ≤ n ∧ ¬ n ≤ 122 ∧ 48 ≤ n ∧ ¬ n ≤ 57 ∧ (n == 45) = false ∧ chOk x = false) ∨ (¬ 97 ≤ n ∧ 48 ≤ n ∧ n ≤ 57 ∧ chOk x = true) ∨ (¬ 97 ≤ n ∧ 48 ≤ n ∧ ¬ n ≤ 57 ∧ (n == 45) = false ∧ chOk x = false) ∨ (¬ 97 ≤ n ∧ ¬ 48 ≤ n ∧ (n == 45) = true ∧ chOk x = true) ∨ (¬ 97 ≤ n ∧ ¬ 48 ≤ n ∧ (n == 45) = false ∧ chOk x = false) := by
  rw [chOk_iff, hn]
  simp only [Bool.or_eq_true, Bool.and_eq_true, decide_eq_true_eq, Bool.or_eq_false_iff, Bool.and_eq_false_imp, decide_eq_false_iff_not, beq_iff_eq, beq_eq_false_iff_ne]
  omega

set_option maxRecDepth 100000 in
set_option maxHeartbeats 1000000 in
theorem callowed_any (x : UInt8) (w : World) : Calls Try.prog 29 #[.int .u8 (x.toNat : Int)] w fun e w' => e = .returned (.bool (chOk x)) ∧ w = w' := by
  obtain ⟨n, hn⟩ : ∃ n : Int, (x.toNat : Int) = n := ⟨_, rfl⟩
  have key := chOk_key x hn
  rw [hn]
  clear hn
  rcases key with ⟨h1, h2, e⟩ | ⟨h1, h2, h3, h4, h5, e⟩ | ⟨h1, h3, h4, e⟩ | ⟨h1, h3, h4, h5, e⟩ | ⟨h1, h3, h5, e⟩ | ⟨h1, h3, h5, e⟩ <;>
  · rw [e]
    clear e
    go_enter Try.func29, Try.ntmps29
    go_wp2_with fail
    go_ret
    first | exact ⟨rfl, rfl⟩ | exact ⟨by rw [h5]; rfl, rfl⟩

/-- The first k bytes are as they should be. -/
theorem chs_step {s : List UInt8} {k : Nat} {x : UInt8} (hx : s[k]? = some x) (h : ∀ j < k, ∀ y, s[j]? = some y → chOk y = true) (hc : chOk x = true) : ∀ j < k + 1, ∀ y, s[j]? = some y → chOk y = true := by
  intro j hj y hy
  rcases Nat.lt_succ_iff_lt_or_eq.1 hj with h1 | rfl
  · exact h j h1 y hy
  · rw [hx] at hy
    injection hy with hy
    rw [← hy]
    exact hc
theorem nameC_short {s : List UInt8} (h : s.length < 1) : nameC 10 s = 10 := by unfold nameC nameOk; rw [if_neg]; simp; omega
theorem nameC_long {s : List UInt8} (h : 15 < s.length) : nameC 10 s = 10 := by unfold nameC nameOk; rw [if_neg]; simp; omega
theorem nameC_bad {s : List UInt8} {k : Nat} {x : UInt8} (hx : s[k]? = some x) (hc : chOk x = false) : nameC 10 s = 10 := by
  unfold nameC
  rw [if_neg]
  rw [nameOk_iff]
  rintro ⟨_, _, h⟩
  have := h x (List.mem_of_getElem? hx)
  rw [hc] at this
  cases this
theorem nameC_good {s : List UInt8} (h1 : 1 ≤ s.length) (h2 : s.length ≤ 15) (h : ∀ j < s.length, ∀ y, s[j]? = some y → chOk y = true) : nameC 10 s = 0 := by
  unfold nameC
  rw [if_pos]
  refine nameOk_iff.2 ⟨h1, h2, fun c hc => ?_⟩
  obtain ⟨k, hk⟩ := List.mem_iff_getElem?.1 hc
  exact h k (List.getElem?_eq_some_iff.1 hk).1 c hk

set_option maxRecDepth 100000 in
set_option maxHeartbeats 2000000 in
theorem cname_any (b : ByteArray) (w : World) : Calls Try.prog 16 #[.string b] w fun e w' => e = .returned (.int .i64 (nameC 10 b.data.toList)) ∧ w = w' := by
  have hl := Lib.size_eq b
  obtain ⟨n, hn⟩ : ∃ n, b.size = n := ⟨_, rfl⟩
  obtain ⟨s, hs⟩ : ∃ s, b.data.toList = s := ⟨_, rfl⟩
  have Hc : Hid (∀ (k : Nat) (c : UInt8) (W : World), s[k]? = some c → (Instr.index 9 (.string b) (.int .i64 (k : Int))).run Try.prog W = .ok (.int .u8 (c.toNat : Int)) W) := fun k c W hc => run_index_str b k c .i64 Try.underlying9 (by rw [hs]; exact hc)
  rw [hs] at hl ⊢
  rw [hn] at hl
  have Hl := Lib.hid hl
  by_cases h1 : n < 1
  · have e := nameC_short (by rw [← hl]; exact h1)
    rw [e]
    clear hs hl e
    go_enter Try.func16, Try.ntmps16
    go_wp2_with fail
    go_ret
    exact ⟨rfl, rfl⟩
  by_cases h2 : 15 < n
  · have e := nameC_long (by rw [← hl]; exact h2)
    rw [e]
    clear hs hl e
    go_enter Try.func16, Try.ntmps16
    go_wp2_with fail
    go_ret
    exact ⟨rfl, rfl⟩
  clear hs hl
  go_enter Try.func16, Try.ntmps16
  go_wp2_with fail
  go_loopw [14] (fun v W => ∃ k : Nat, k ≤ n ∧ v = .int .i64 k ∧ Hid (∀ j < k, ∀ y, s[j]? = some y → chOk y = true) ∧ Hid (w = W)) (fun v _ => n - (intOf v).toNat)
  case atStart => exact ⟨0, Nat.zero_le _, rfl, fun j hj => absurd hj (by omega), rfl⟩
  case round =>
    obtain ⟨k, hk, rfl, HS, HW⟩ := hrel
    by_cases hlt : k < n
    · obtain ⟨x, hx⟩ : ∃ x, s[k]? = some x := ⟨_, List.getElem?_eq_getElem (by rw [← Hl.out]; exact hlt)⟩
      have hix : ∀ W, (Instr.index 9 (.string b) (.int .i64 (k : Int))).run Try.prog W = .ok (.int .u8 (x.toNat : Int)) W := fun W => Hc.out k x W hx
      have Hx := Lib.hid hx
      clear hx
      go_wp2_with fail
      refine (callowed_any x _).mono ?_
      rintro e w2 ⟨rfl, hw2⟩
      have HW2 : Hid (w = w2) := HW.out.trans hw2
      clear hw2 HW
      by_cases hc : chOk x = true
      · have HS2 := Lib.hid (chs_step Hx.out HS.out hc)
        clear HS
        rw [hc]
        go_wp2_with fail
        go_roundw
        all_goals first
          | (simp [intOf]; omega)
          | exact ⟨k + 1, by omega, by go_num, HS2, HW2⟩
      · have hc' : chOk x = false := by simpa using hc
        have He := Lib.hid (nameC_bad Hx.out hc')
        clear hc
        rw [hc']
        go_wp2_with fail
        go_ret
        exact ⟨by rw [He.out]; rfl, HW2.out⟩
    · obtain rfl : k = n := by omega
      have He : Hid (nameC 10 s = 0) := nameC_good (by rw [← Hl.out]; omega) (by rw [← Hl.out]; omega) (by rw [← Hl.out]; exact HS.out)
      go_wp2_with fail
      go_ret
      exact ⟨by rw [He.out]; rfl, HW.out⟩

set_option maxRecDepth 100000 in
set_option maxHeartbeats 2000000 in
theorem rname_any (b : ByteArray) (w : World) : Calls Try.prog 17 #[.string b] w fun e w' => e = .returned (.int .i64 (nameC 10 b.data.toList)) ∧ w = w' := by
  have hl := Lib.size_eq b
  obtain ⟨n, hn⟩ : ∃ n, b.size = n := ⟨_, rfl⟩
  obtain ⟨s, hs⟩ : ∃ s, b.data.toList = s := ⟨_, rfl⟩
  have Hc : Hid (∀ (k : Nat) (c : UInt8) (W : World), s[k]? = some c → (Instr.index 9 (.string b) (.int .i64 (k : Int))).run Try.prog W = .ok (.int .u8 (c.toNat : Int)) W) := fun k c W hc => run_index_str b k c .i64 Try.underlying9 (by rw [hs]; exact hc)
  rw [hs] at hl ⊢
  rw [hn] at hl
  have Hl := Lib.hid hl
  by_cases h1 : n < 1
  · have e := nameC_short (by rw [← hl]; exact h1)
    rw [e]
    clear hs hl e
    go_enter Try.func17, Try.ntmps17
    go_wp2_with fail
    go_ret
    exact ⟨rfl, rfl⟩
  by_cases h2 : 15 < n
  · have e := nameC_long (by rw [← hl]; exact h2)
    rw [e]
    clear hs hl e
    go_enter Try.func17, Try.ntmps17
    go_wp2_with fail
    go_ret
    exact ⟨rfl, rfl⟩
  clear hs hl
  go_enter Try.func17, Try.ntmps17
  go_wp2_with fail
  go_loopw [3] (fun v W => ∃ k : Nat, k ≤ n ∧ v = .int .i64 k ∧ Hid (∀ j < k, ∀ y, s[j]? = some y → chOk y = true) ∧ Hid (w = W)) (fun v _ => n - (intOf v).toNat)
  case atStart => exact ⟨0, Nat.zero_le _, rfl, fun j hj => absurd hj (by omega), rfl⟩
  case round =>
    obtain ⟨k, hk, rfl, HS, HW⟩ := hrel
    by_cases hlt : k < n
    · obtain ⟨x, hx⟩ : ∃ x, s[k]? = some x := ⟨_, List.getElem?_eq_getElem (by rw [← Hl.out]; exact hlt)⟩
      have hix : ∀ W, (Instr.index 9 (.string b) (.int .i64 (k : Int))).run Try.prog W = .ok (.int .u8 (x.toNat : Int)) W := fun W => Hc.out k x W hx
      have Hx := Lib.hid hx
      clear hx
      obtain ⟨m, hm⟩ : ∃ m : Int, (x.toNat : Int) = m := ⟨_, rfl⟩
      have key := chOk_key x hm
      rw [hm] at hix
      clear hm
      rcases key with ⟨g1, g2, hc⟩ | ⟨g1, g2, g3, g4, g5, hc⟩ | ⟨g1, g3, g4, hc⟩ | ⟨g1, g3, g4, g5, hc⟩ | ⟨g1, g3, g5, hc⟩ | ⟨g1, g3, g5, hc⟩
      all_goals
        first
          | (have HS2 := Lib.hid (chs_step Hx.out HS.out hc)
             clear HS hc
             go_wp2_with fail
             go_roundw
             all_goals first
               | (simp [intOf]; omega)
               | exact ⟨k + 1, by omega, by go_num, HS2, HW⟩)
          | (have He := Lib.hid (nameC_bad Hx.out hc)
             clear HS hc
             go_wp2_with fail
             go_ret
             exact ⟨by rw [He.out]; rfl, HW.out⟩)
    · obtain rfl : k = n := by omega
      have He : Hid (nameC 10 s = 0) := nameC_good (by rw [← Hl.out]; omega) (by rw [← Hl.out]; omega) (by rw [← Hl.out]; exact HS.out)
      go_wp2_with fail
      go_ret
      exact ⟨by rw [He.out]; rfl, HW.out⟩

end Go.Proofs.Ytmcnhcbibcjgnaa
namespace Go.Proofs.Ytmcnhcbibcjgnaa
open Go.RowKit
set_option linter.unusedVariables false
set_option linter.unusedSimpArgs false

/-- The code of a period. -/
def perC (p : Int) : Int := if perOk p = true then 0 else 2
theorem perC_low {p : Int} (h : p < 0) : perC p = 2 := by unfold perC perOk; rw [if_neg]; simp; omega
theorem perC_high {p : Int} (h : 1099511627776 < p) : perC p = 2 := by unfold perC perOk; rw [if_neg]; simp; omega
theorem perC_good {p : Int} (h : ¬ p < 0) (h' : ¬ 1099511627776 < p) : perC p = 0 := by unfold perC perOk; rw [if_pos]; simp; omega
theorem checkC_name {c : Cl} (h : nameC 10 c.name ≠ 0) : checkC 10 2 c = nameC 10 c.name := by
  unfold nameC at h ⊢
  unfold checkC
  split
  · rename_i h1; rw [if_pos h1] at h; exact absurd rfl h
  · rfl
theorem checkC_per {c : Cl} (h : nameC 10 c.name = 0) : checkC 10 2 c = perC c.period := by
  unfold nameC at h
  unfold checkC perC
  split
  · rfl
  · rename_i h1; rw [if_neg h1] at h; cases h

set_option maxRecDepth 100000 in
set_option maxHeartbeats 400000 in
theorem cperiod_any (p : Int) (w : World) : Calls Try.prog 30 #[.int .i64 p] w fun e w' => e = .returned (.int .i64 (perC p)) ∧ w = w' := by
  by_cases h1 : p < 0
  · have e := perC_low h1
    rw [e]
    clear e
    go_enter Try.func30, Try.ntmps30
    go_wp2_with fail
    go_ret
    exact ⟨rfl, rfl⟩
  by_cases h2 : 1099511627776 < p
  · have e := perC_high h2
    rw [e]
    clear e
    go_enter Try.func30, Try.ntmps30
    go_wp2_with fail
    go_ret
    exact ⟨rfl, rfl⟩
  have e := perC_good h1 h2
  rw [e]
  clear e
  go_enter Try.func30, Try.ntmps30
  go_wp2_with fail
  go_ret
  exact ⟨rfl, rfl⟩

set_option maxRecDepth 100000 in
set_option maxHeartbeats 400000 in
theorem ccheck_any (c : Cl) (w : World) : Calls Try.prog 24 #[.agg (clv c).toArray] w fun e w' => e = .returned (.int .i64 (checkC 10 2 c)) ∧ Below w.heap.size w w' := by
  go_enter Try.func24, Try.ntmps24
  go_wp2_with ((with_reducible refine at_box 34 ?_); refine box_cl rfl _ rfl c rfl ?_)
  intro w1 hr1 hb1 hs1
  have c0 := cl_name hr1
  have c1 := cl_per hr1
  go_wp2_with fail
  refine (cname_any _ w1).mono ?_
  rintro e w2 ⟨rfl, rfl⟩
  have hd : (⟨c.name.toArray⟩ : ByteArray).data.toList = c.name := rfl
  rw [hd]
  clear hd
  obtain ⟨m, hm⟩ : ∃ m, nameC 10 c.name = m := ⟨_, rfl⟩
  rw [hm]
  by_cases h0 : m = 0
  · have He := Lib.hid (checkC_per (hm.trans h0))
    clear hm
    subst h0
    go_wp2_with fail
    refine (cperiod_any c.period _).mono ?_
    rintro e w2 ⟨rfl, rfl⟩
    go_wp2_with fail
    go_ret
    exact ⟨by rw [He.out]; rfl, hb1⟩
  · have He := Lib.hid ((checkC_name (by rw [hm]; exact h0)).trans hm)
    clear hm
    go_wp2_with fail
    go_ret
    exact ⟨by rw [He.out]; rfl, hb1⟩

set_option maxRecDepth 100000 in
set_option maxHeartbeats 400000 in
theorem rcheck15_any (c : Cl) (w : World) : Calls Try.prog 42 #[.agg (clv c).toArray] w fun e w' => e = .returned (.int .i64 (checkC 10 2 c)) ∧ Below w.heap.size w w' := by
  go_enter Try.func42, Try.ntmps42
  go_wp2_with ((with_reducible refine at_box 34 ?_); refine box_cl rfl _ rfl c rfl ?_)
  intro w1 hr1 hb1 hs1
  have c0 := cl_name hr1
  have c1 := cl_per hr1
  go_wp2_with fail
  refine (rname_any _ w1).mono ?_
  rintro e w2 ⟨rfl, rfl⟩
  have hd : (⟨c.name.toArray⟩ : ByteArray).data.toList = c.name := rfl
  rw [hd]
  clear hd
  obtain ⟨m, hm⟩ : ∃ m, nameC 10 c.name = m := ⟨_, rfl⟩
  obtain ⟨p, hp⟩ : ∃ p, c.period = p := ⟨_, rfl⟩
  rw [hp] at c1
  rw [hm]
  by_cases h0 : m = 0
  · have hcp := (checkC_per (hm.trans h0))
    rw [hp] at hcp
    clear hm hp
    subst h0
    by_cases h1 : p < 0
    · have He := Lib.hid (hcp.trans (perC_low h1))
      clear hcp
      go_wp2_with fail
      go_ret
      exact ⟨by rw [He.out]; rfl, hb1⟩
    by_cases h2 : 1099511627776 < p
    · have He := Lib.hid (hcp.trans (perC_high h2))
      clear hcp
      go_wp2_with fail
      go_ret
      exact ⟨by rw [He.out]; rfl, hb1⟩
    have He := Lib.hid (hcp.trans (perC_good h1 h2))
    clear hcp
    go_wp2_with fail
    go_ret
    exact ⟨by rw [He.out]; rfl, hb1⟩
  · have He := Lib.hid ((checkC_name (by rw [hm]; exact h0)).trans hm)
    clear hm
    go_wp2_with fail
    go_ret
    exact ⟨by rw [He.out]; rfl, hb1⟩

set_option maxRecDepth 100000 in
set_option maxHeartbeats 400000 in
theorem cflags_any (c : Cl) (w : World) : Calls Try.prog 36 #[.agg (clv c).toArray] w fun e w' => e = .returned (.int .u64 ((flagB c).toNat : Int)) ∧ Below w.heap.size w w' := by
  go_enter Try.func36, Try.ntmps36
  go_wp2_with ((with_reducible refine at_box 34 ?_); refine box_cl rfl _ rfl c rfl ?_)
  intro w1 hr1 hb1 hs1
  have c2 := cl_ev hr1
  have c3 := cl_pr hr1
  obtain ⟨x, hx⟩ : ∃ x, c.event = x := ⟨_, rfl⟩
  obtain ⟨y, hy⟩ : ∃ y, c.priv = y := ⟨_, rfl⟩
  rw [hx] at c2
  rw [hy] at c3
  have Hf : Hid (flagB c = flagBits x y) := by show _ = _; rw [flagB, hx, hy]
  clear hx hy
  cases x <;> cases y <;>
  · go_wp2_with fail
    go_ret
    exact ⟨by rw [Hf.out]; rfl, hb1⟩
end Go.Proofs.Ytmcnhcbibcjgnaa
namespace Go.Proofs.Ytmcnhcbibcjgnaa
open Go.RowKit Go.Maps
set_option linter.unusedVariables false
set_option linter.unusedSimpArgs false

/-- Block g is the set of the classes l: they lie in the row vs, their index in the map mp (none: there are no classes yet). -/
structure SetAt (w : World) (base g : Nat) (vs : Value) (mp : Option Nat) (l : List Cl) : Prop where
  row : RowV w g 60 [vs, .map mp]
  own : w.ownsRow base 34 4 vs l.length (clsV l)
  map : ∀ b, mp = some b → base ≤ b ∧ w.ownsMap Try.prog 9 (plainElem (H := Unit) Try.prog 3) b l.length (idxD l)
  nomap : mp = none → l = []
  hg : base ≤ g
  ok : SetOk l
def footC (g : Nat) (mp : Option Nat) (vs : Value) : List Nat := g :: (mp.toList ++ vs.ownBlock.toList)
/-- .. the blocks that it holds are those of L. -/
def Cls (w : World) (base : Nat) (L : List Nat) (g : Nat) (l : List Cl) : Prop := ∃ vs mp, SetAt w base g vs mp l ∧ L = footC g mp vs
theorem mem_footC {g k : Nat} {mp : Option Nat} {vs : Value} : k ∈ footC g mp vs ↔ k = g ∨ mp = some k ∨ vs.ownBlock = some k := by
  simp [footC, Option.mem_toList]

section
variable {w w' : World} {base g : Nat} {vs : Value} {mp : Option Nat} {l m : List Cl} {L : List Nat}
theorem SetAt.c0 (h : SetAt w base g vs mp l) : w.cell? ⟨g, 0, none⟩ = some vs := h.row.cell rfl
theorem SetAt.c1 (h : SetAt w base g vs mp l) : w.cell? ⟨g, 1, none⟩ = some (.map mp) := h.row.cell rfl
theorem SetAt.glt (h : SetAt w base g vs mp l) : g < w.heap.size := h.row.lt
theorem SetAt.gm (h : SetAt w base g vs mp l) {b : Nat} (hb : mp = some b) : g ≠ b := row_map_apart h.row (h.map b hb).2
theorem SetAt.vg (h : SetAt w base g vs mp l) : vs.ownBlock ≠ some g := own_row_apart h.own h.row (by decide)
theorem SetAt.vm (h : SetAt w base g vs mp l) {b : Nat} (hb : mp = some b) : vs.ownBlock ≠ some b := own_map_apart h.own (h.map b hb).2
theorem SetAt.lt (h : SetAt w base g vs mp l) {k : Nat} (hk : k ∈ footC g mp vs) : base ≤ k ∧ k < w.heap.size := by
  rcases mem_footC.1 hk with rfl | hk | hk
  · exact ⟨h.hg, h.glt⟩
  · exact ⟨(h.map k hk).1, (h.map k hk).2.lt⟩
  · exact h.own.lt k hk
theorem Cls.lt (h : Cls w base L g l) {k : Nat} (hk : k ∈ L) : base ≤ k ∧ k < w.heap.size := by
  obtain ⟨_, _, h, rfl⟩ := h
  exact h.lt hk
theorem Cls.ok (h : Cls w base L g l) : SetOk l := by
  obtain ⟨_, _, h, _⟩ := h
  exact h.ok
theorem Cls.mem (h : Cls w base L g l) : g ∈ L := by
  obtain ⟨_, _, _, rfl⟩ := h
  simp [footC]
theorem SetAt.but {M : List Nat} {B : Nat} (h : SetAt w base g vs mp l) (hb : But M B w w') (hB : ∀ k ∈ footC g mp vs, k < B ∧ k ∉ M) : SetAt w' base g vs mp l :=
  ⟨rowV_but h.row hb (hB g (by simp [footC])).1 (hB g (by simp [footC])).2, own_but h.own hb fun k hk => hB k (mem_footC.2 (.inr (.inr hk))),
    fun b e => ⟨(h.map b e).1, map_but (h.map b e).2 hb (hB b (mem_footC.2 (.inr (.inl e)))).1 (hB b (mem_footC.2 (.inr (.inl e)))).2⟩, h.nomap, h.hg, h.ok⟩
theorem Cls.but {M : List Nat} {B : Nat} (h : Cls w base L g l) (hb : But M B w w') (hB : ∀ k ∈ L, k < B ∧ k ∉ M) : Cls w' base L g l := by
  obtain ⟨vs, mp, h, rfl⟩ := h
  exact ⟨vs, mp, h.but hb hB, rfl⟩
theorem SetAt.below (h : SetAt w base g vs mp l) (hb : Below w.heap.size w w') : SetAt w' base g vs mp l := h.but (But.of [] hb) fun k hk => ⟨(h.lt hk).2, by simp⟩
theorem Cls.below (h : Cls w base L g l) (hb : Below w.heap.size w w') : Cls w' base L g l := h.but (But.of [] hb) fun k hk => ⟨(h.lt hk).2, by simp⟩
theorem SetAt.drew (h : SetAt w base g vs mp l) : SetAt w.drew base g vs mp l := ⟨h.row, h.own, h.map, h.nomap, h.hg, h.ok⟩
theorem Cls.drew (h : Cls w base L g l) : Cls w.drew base L g l := by
  obtain ⟨vs, mp, h, rfl⟩ := h
  exact ⟨vs, mp, h.drew, rfl⟩
theorem Cls.lower {base' : Nat} (h : Cls w base L g l) (hb : base' ≤ base) : Cls w base' L g l := by
  obtain ⟨vs, mp, h, rfl⟩ := h
  exact ⟨vs, mp, ⟨h.row, own_rebase h.own fun k hk => Nat.le_trans hb (h.own.lt k hk).1, fun b e => ⟨Nat.le_trans hb (h.map b e).1, (h.map b e).2⟩, h.nomap, Nat.le_trans hb h.hg, h.ok⟩, rfl⟩
/-- What a call makes of a set: it is m now; below the old end of memory nothing has turned but what it held; it holds what it held, and new memory. -/
def TurnedC (w : World) (base : Nat) (L : List Nat) (g : Nat) (m : List Cl) (w' : World) : Prop := ∃ L', Cls w' base L' g m ∧ But L w.heap.size w w' ∧ ∀ k ∈ L', k ∈ L ∨ w.heap.size ≤ k
theorem TurnedC.same (h : Cls w base L g l) (hb : Below w.heap.size w w') : TurnedC w base L g l w' := ⟨L, h.below hb, But.of _ hb, fun k hk => .inl hk⟩
end

theorem keyed9 : Keyed Try.prog 9 := string_keyed Try.underlying9
theorem key9 {s : List UInt8} (hs : s.length ≤ maxLen) : keyOf Try.prog 9 (.string ⟨s.toArray⟩) = some (.string s) := Go.WideMaps.keyOf_string_mk Try.underlying9 (s := ⟨s.toArray⟩) hs

set_option maxRecDepth 100000 in
set_option maxHeartbeats 400000 in
theorem cnew_any (w : World) : Calls Try.prog 23 #[] w fun e w' => e = .returned (.pointer (some ⟨w.heap.size, 0, none⟩)) ∧ Cls w' w.heap.size [w.heap.size] w.heap.size [] ∧ Below w.heap.size w w' := by
  have hb0 : Try.prog.built 60 [] = some #[.slice none 0 0, .map none] := by kernel_rfl
  go_enter Try.func23, Try.ntmps23
  go_wp2_with first
    | ((with_reducible refine at_build 60 ?_); refine wpList_build_to rfl 60 _ rfl [.slice none 0 0, .map none] hb0 ?_)
    | ((with_reducible refine at_box 60 ?_); refine wpList_box_rowV rfl 60 _ rfl [.slice none 0 0, .map none] rfl ?_)
  intro w1 hr1 hb1 hs1
  go_wp2_with fail
  go_ret
  refine ⟨rfl, ⟨_, none, ⟨hr1, World.ownsRow_nil _ _ _ _, fun b e => (by cases e), fun _ => rfl, Nat.le_refl _, SetOk.nil⟩, rfl⟩, hb1⟩

set_option maxRecDepth 100000 in
set_option maxHeartbeats 400000 in
theorem clen_any (w : World) (base g : Nat) (L : List Nat) (l : List Cl) (h : Cls w base L g l) :
    Calls Try.prog 13 #[.pointer (some ⟨g, 0, none⟩)] w fun e w' => e = .returned (.int .i64 (l.length : Int)) ∧ w = w' := by
  obtain ⟨vs, mp, h, rfl⟩ := h
  have h0 := h.c0
  obtain ⟨A, c, hv, _, _⟩ := own_slice h.own
  rw [hv] at h0
  clear h hv
  go_enter Try.func13, Try.ntmps13
  go_wp2_with fail
  go_ret
  exact ⟨rfl, rfl⟩

/-- What Find answers. -/
def findV (l : List Cl) (s : List UInt8) : Value := .tuple #[.int .i64 (((findC l s).getD 0 : Nat) : Int), .bool (findC l s).isSome]
theorem zero3C (w : World) : (zeroValue 3).run Try.prog w = .ok (.int .i64 0) w := by kernel_rfl
theorem look_run15 {w : World} {base g : Nat} {vs : Value} {mp : Option Nat} {l : List Cl} (h : SetAt w base g vs mp l) {s : List UInt8} (hs : s.length ≤ maxLen) : (Instr.lookup 58 (.map mp) (.string ⟨s.toArray⟩) true).run Try.prog w = .ok (findV l s) w := by
  cases mp with
  | none =>
    rw [h.nomap rfl]
    exact Maps.look_nil true keyed9 Try.underlying58 (zero3C w) (key9 hs)
  | some b =>
    obtain ⟨v, ps, hrun, hv⟩ := (h.map b rfl).2.look_ok keyed9 Try.underlying58 (zero3C w) (plainElem_int Try.underlying3 (by decide)) (key9 hs)
    obtain ⟨c, rfl, hc, hwc⟩ := plainElem_int_inv Try.underlying3 hv
    rcases idxD_tells h.ok.one s with ⟨i, h1, h2, h3⟩ | ⟨h1, h2, h3⟩
    · rw [h2] at hrun
      rw [h3] at hc
      have e : c = (i : Int) := by
        have := congrArg Prod.fst hc
        simp at this
        exact this.symm
      subst e
      unfold findV
      rw [h1]
      exact hrun
    · rw [h2] at hrun
      rw [h3] at hc
      have e : c = 0 := by
        have := congrArg Prod.fst hc
        simp at this
        exact this.symm
      subst e
      unfold findV
      rw [h1]
      exact hrun

set_option maxRecDepth 100000 in
set_option maxHeartbeats 400000 in
theorem cfind_any (w : World) (base g : Nat) (L : List Nat) (l : List Cl) (s : List UInt8) (h : Cls w base L g l) (hs : s.length ≤ maxLen) :
    Calls Try.prog 10 #[.pointer (some ⟨g, 0, none⟩), .string ⟨s.toArray⟩] w fun e w' => e = .returned (findV l s) ∧ w = w' := by
  obtain ⟨vs, mp, h, rfl⟩ := h
  have h1 := h.c1
  have hl := look_run15 h hs
  clear h
  unfold findV at hl ⊢
  go_enter Try.func10, Try.ntmps10
  go_wp2_with fail
  go_ret2
  exact ⟨rfl, rfl⟩

/-- What Get answers. -/
def getC15 (l : List Cl) (i : Int) : Cl × Bool := if 0 ≤ i then (match l[i.toNat]? with | some c => (c, true) | none => (cl0, false)) else (cl0, false)
theorem getC15_some {l : List Cl} {k : Nat} {c : Cl} (h : l[k]? = some c) : getC15 l (k : Int) = (c, true) := by unfold getC15; rw [if_pos (by omega), Int.toNat_natCast, h]
theorem getC15_low {l : List Cl} {i : Int} (h : i < 0) : getC15 l i = (cl0, false) := by unfold getC15; rw [if_neg (by omega)]
theorem getC15_high {l : List Cl} {i : Int} (h : (l.length : Int) ≤ i) : getC15 l i = (cl0, false) := by unfold getC15; rw [if_pos (by omega), List.getElem?_eq_none (by omega)]
set_option maxRecDepth 100000 in
set_option maxHeartbeats 1000000 in
theorem cget_any (w : World) (base g : Nat) (L : List Nat) (l : List Cl) (i : Int) (h : Cls w base L g l) :
    Calls Try.prog 12 #[.pointer (some ⟨g, 0, none⟩), .int .i64 i] w fun e w' => e = .returned (.tuple #[.agg (clv (getC15 l i).1).toArray, .bool (getC15 l i).2]) ∧ Below w.heap.size w w' := by
  have HC := Lib.hid h
  clear h
  go_enter Try.func12, Try.ntmps12
  go_wp2_with ((with_reducible refine at_alloc 34 ?_); refine alloc_cl rfl rfl ?_)
  intro w1 hr1 hb1 hs1
  have hb0 : Try.prog.built 34 [] = some (clv cl0).toArray := by kernel_rfl
  have Hb0 := Lib.hid hb0
  clear hb0
  obtain ⟨n, hn⟩ : ∃ n, l.length = n := ⟨_, rfl⟩
  have Hn := Lib.hid hn
  have HL := Lib.hid (clen_any w1 base g L l (HC.out.below hb1))
  rw [hn] at HL
  clear hn
  by_cases h1 : i < 0
  · have He := Lib.hid (getC15_low (l := l) h1)
    go_wp2_with first
      | ((with_reducible refine at_build 34 ?_); refine wpList_build_to rfl 34 _ rfl (clv cl0) Hb0.out ?_)
      | ((with_reducible refine at_store 34 ?_); refine store_cl rfl _ _ rfl w.heap.size cl0 rfl rfl hr1 (clv_length _) ?_)
    intro w2 hr2 hg2 hs2
    go_wp2_with fail
    exact bodyPost_ret (results_cell_tmp (fn := Try.f12) rfl _ _ w.heap.size 34 _ (0, 0) _ rfl _ rfl hr2 Try.underlying34 rfl (cl_info' _)) rfl ⟨by rw [He.out]; rfl, below_grown hb1 hg2 (by omega) (by omega)⟩
  obtain ⟨k, rfl⟩ := Int.eq_ofNat_of_zero_le (show 0 ≤ i by omega)
  by_cases h2 : n ≤ k
  · have He := Lib.hid (getC15_high (l := l) (i := (k : Int)) (by rw [Hn.out]; omega))
    go_wp2_with fail
    refine HL.out.mono ?_
    rintro e w2 ⟨rfl, rfl⟩
    go_wp2_with first
      | ((with_reducible refine at_build 34 ?_); refine wpList_build_to rfl 34 _ rfl (clv cl0) Hb0.out ?_)
      | ((with_reducible refine at_store 34 ?_); refine store_cl rfl _ _ rfl w.heap.size cl0 rfl rfl hr1 (clv_length _) ?_)
    intro w2 hr2 hg2 hs2
    go_wp2_with fail
    exact bodyPost_ret (results_cell_tmp (fn := Try.f12) rfl _ _ w.heap.size 34 _ (0, 0) _ rfl _ rfl hr2 Try.underlying34 rfl (cl_info' _)) rfl ⟨by rw [He.out]; rfl, below_grown hb1 hg2 (by omega) (by omega)⟩
  obtain ⟨c, hc⟩ : ∃ c, l[k]? = some c := ⟨_, List.getElem?_eq_getElem (by rw [Hn.out]; omega)⟩
  have He := Lib.hid (getC15_some hc)
  have hC1 := HC.out.below hb1
  obtain ⟨vs, mp, hC1, _⟩ := hC1
  have h0 := hC1.c0
  obtain ⟨A, cap, hv, hnl, hncap, hcm, hl, _⟩ := lies_ownC hC1.own
  rw [Hn.out] at hv
  rw [hv] at h0
  obtain ⟨b, o, rfl, hbl, hrg⟩ := lies_cl hl hc
  have hkn : k < n := by omega
  clear hC1 hv hl hnl hncap hcm hc
  go_wp2_with fail
  refine HL.out.mono ?_
  rintro e w2 ⟨rfl, rfl⟩
  go_wp2_with first
    | ((with_reducible refine at_load 34 ?_); refine load_clM rfl _ rfl b (o + k * 4) rfl hrg ?_)
    | ((with_reducible refine at_store 34 ?_); refine store_cl rfl _ _ rfl w.heap.size c rfl rfl hr1 (clv_length _) ?_)
  intro w2 hr2 hg2 hs2
  go_wp2_with fail
  exact bodyPost_ret (results_cell_tmp (fn := Try.f12) rfl _ _ w.heap.size 34 _ (0, 0) _ rfl _ rfl hr2 Try.underlying34 rfl (cl_info' _)) rfl ⟨by rw [He.out]; rfl, below_grown hb1 hg2 (by omega) (by omega)⟩
end Go.Proofs.Ytmcnhcbibcjgnaa
namespace Go.Proofs.Ytmcnhcbibcjgnaa
open Go.RowKit Go.Maps
set_option linter.unusedVariables false
set_option linter.unusedSimpArgs false

/-- A period is written: the set is another. -/
theorem SetAt.put {w : World} {base g b c : Nat} {mp : Option Nat} {l : List Cl} {i n : Nat} {p : Int} {d : Cl} (h : SetAt w base g (.slice (some ⟨b, 0, none⟩) n c) mp l) (hn : n = l.length) (hi : l[i]? = some d) (hp : perOk p = true) :
    SetAt (w.setCell ⟨b, i * 4 + 1, none⟩ (.int .i64 p)) base g (.slice (some ⟨b, 0, none⟩) n c) mp (putAt l i p) := by
  subst hn
  have hbg : g ≠ b := fun e => h.vg (by rw [e]; rfl)
  refine ⟨h.row.setCell_other (by exact hbg) _, ?_, fun m e => ⟨(h.map m e).1, ?_⟩, fun e => ?_, h.hg, h.ok.put hp⟩
  · have := (h.own.stored (i * 4 + 1) (.int .i64 p)).1
    rw [clsV_put hi] at this
    rw [putAt_length]
    exact this
  · rw [putAt_length, idxD_put]
    exact World.ownsMap.setCell (h.map m e).2 (by intro e2; exact h.vm e (by rw [e2]; rfl)) _
  · have := h.nomap e
    rw [this] at hi
    cases hi

set_option maxRecDepth 100000 in
set_option maxHeartbeats 2000000 in
theorem clonger_any (w : World) (base g : Nat) (L : List Nat) (l : List Cl) (s : List UInt8) (p : Int) (h : Cls w base L g l) (hs : s.length ≤ maxLen) :
    Calls Try.prog 19 #[.pointer (some ⟨g, 0, none⟩), .string ⟨s.toArray⟩, .int .i64 p] w fun e w' => e = .returned (.int .i64 (longC l s p).2) ∧ TurnedC w base L g (longC l s p).1 w' := by
  have HC := Lib.hid h
  have HT0 : Hid (TurnedC w base L g l w) := TurnedC.same h (Below.refl _ _)
  obtain ⟨R, hR⟩ : ∃ R, longC l s p = R := ⟨_, rfl⟩
  have HR := Lib.hid hR
  rw [hR]
  obtain ⟨f, hf⟩ : ∃ f, findC l s = f := ⟨_, rfl⟩
  have Hfi := Lib.hid hf
  have hcf := cfind_any w base g L l s h hs
  unfold findV at hcf
  rw [hf] at hcf
  clear hR hf h
  rcases f with _ | i
  · have He : Hid (R = (l, 8)) := by show _ = _; rw [← HR.out, longC_none Hfi.out]
    simp only [Option.isSome_none, Option.getD_none] at hcf
    go_enter Try.func19, Try.ntmps19
    go_wp2_with fail
    refine hcf.mono ?_
    rintro e w1 ⟨rfl, rfl⟩
    go_wp2_with fail
    go_ret
    exact ⟨by rw [He.out]; rfl, by rw [He.out]; exact HT0.out⟩
  simp only [Option.isSome_some, Option.getD_some] at hcf
  obtain ⟨d, hd, _⟩ := findC_some Hfi.out
  have Hd := Lib.hid hd
  have Hpa := Lib.hid (perAt_of hd)
  have hil := (List.getElem?_eq_some_iff.1 hd).1
  obtain ⟨vs, mp, hC, hL⟩ := HC.out
  obtain ⟨b, c, hv, hnc, hcm, hbb, hbl⟩ := own_form hC.own (by omega)
  subst hv
  have h0 := hC.c0
  have hper : w.cell? ⟨b, i * 4 + 1, none⟩ = some (.int .i64 d.period) := by
    have := hC.own.cells (g := b) rfl (i * 4 + 1) (.int .i64 d.period) (by
      have := flat_get (f := clv) clv_length hd 1 (by omega)
      exact this)
    rwa [Addr.add_lit, Nat.zero_add] at this
  have hfz : w.frozen? ⟨b, i * 4 + 1, none⟩ = false := hC.own.frozenAt _
  have HS := Lib.hid hC
  have HL := Lib.hid hL
  have hbL : Hid (b ∈ L) := by show _ ∈ _; rw [hL]; exact mem_footC.2 (.inr (.inr rfl))
  obtain ⟨n, hn⟩ : ∃ n, l.length = n := ⟨_, rfl⟩
  have Hn := Lib.hid hn
  rw [hn] at h0 hil
  have hn8 : n ≤ 8 := by rw [← hn]; exact HC.out.ok.len
  clear hd hC hL hn hnc hcm hbb hbl
  obtain ⟨q, hq⟩ : ∃ q, d.period = q := ⟨_, rfl⟩
  have Hq := Lib.hid hq
  rw [hq] at hper
  clear hq
  have hin : i < n := hil
  go_enter Try.func19, Try.ntmps19
  go_wp2_with fail
  refine hcf.mono ?_
  rintro e w1 ⟨rfl, rfl⟩
  clear hcf
  go_wp2_with fail
  refine (cperiod_any p w).mono ?_
  rintro e w1 ⟨rfl, rfl⟩
  by_cases hp : perOk p = true
  rotate_left
  · have hp' : perOk p = false := by simpa using hp
    have He : Hid (R = (l, 2)) := by show _ = _; rw [← HR.out, longC_range Hfi.out hp']
    have hpc : perC p = 2 := by unfold perC; rw [if_neg hp]
    rw [hpc]
    clear hp hp' hpc
    go_wp2_with fail
    go_ret
    exact ⟨by rw [He.out]; rfl, by rw [He.out]; exact HT0.out⟩
  have hpc : perC p = 0 := by unfold perC; rw [if_pos hp]
  rw [hpc]
  have Hp := Lib.hid hp
  clear hp hpc
  by_cases hk : p < q
  · have He : Hid (R = (l, 12)) := by show _ = _; rw [← HR.out, longC_kept Hfi.out Hp.out (by rw [Hpa.out, Hq.out]; exact hk)]
    go_wp2_with fail
    go_ret
    exact ⟨by rw [He.out]; rfl, by rw [He.out]; exact HT0.out⟩
  have He : Hid (R = (putAt l i p, 0)) := by show _ = _; rw [← HR.out, longC_yes Hfi.out Hp.out (by rw [Hpa.out, Hq.out]; exact hk)]
  go_wp2_with fail
  go_ret
  refine ⟨by rw [He.out]; rfl, ?_⟩
  rw [He.out]
  refine ⟨L, ⟨_, mp, HS.out.put (by first | rfl | exact Hn.out.symm) Hd.out Hp.out, ?_⟩, (But.refl _ _ _).setCell (.inl hbL.out) _, fun k hk => .inl hk⟩
  rw [HL.out]
end Go.Proofs.Ytmcnhcbibcjgnaa
