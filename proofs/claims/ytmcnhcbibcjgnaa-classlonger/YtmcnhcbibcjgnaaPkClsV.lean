/-
  Layer 15: acts that lie in memory; the contracts of the laws' light and made.
-/
import Derived.Test.YtmcnhcbibcjgnaaPkClsF
import Derived.Test.YtmcnhcbibcjgnaaPkClsG
import Derived.Test.YtmcnhcbibcjgnaaPkClsH
import Derived.Test.YtmcnhcbibcjgnaaPkClsS
namespace Go.Proofs.Ytmcnhcbibcjgnaa
open Go.RowKit Go.Maps
set_option linter.unusedVariables false
set_option linter.unusedSimpArgs false

def actV (a : Act15) : List Value := .int .i64 a.kind :: clv a.c
theorem actV_length (a : Act15) : (actV a).length = 5 := rfl
def actsV (ax : List Act15) : List Value := ax.flatMap actV
theorem actsV_length (ax : List Act15) : (actsV ax).length = ax.length * 5 := flat_length actV_length ax
theorem lies_act {w : World} {B : Nat} {A : Option Addr} {l : List Act15} (h : LiesV w B A (actsV l)) {i : Nat} {c : Act15} (hi : l[i]? = some c) : ∃ b o, A = some ⟨b, o, none⟩ ∧ b < B ∧ w.rangeAt b (o + i * 5) (actV c) := by
  have hlt := (List.getElem?_eq_some_iff.1 hi).1
  obtain ⟨b, o, hA, hb, hc⟩ := h (fun e0 => by have := congrArg List.length e0; rw [actsV_length] at this; simp only [List.length_nil] at this; omega)
  refine ⟨b, o, hA, hb, fun j v hj => ?_⟩
  have hj4 := (List.getElem?_eq_some_iff.1 hj).1
  rw [actV_length] at hj4
  have := hc (i * 5 + j) v (by rw [actsV, flat_get actV_length hi j hj4]; exact hj)
  rw [Nat.add_assoc]
  exact this
theorem ra_kind {w : World} {b o : Nat} {a : Act15} (h : w.rangeAt b o (actV a)) : w.cell? ⟨b, o, none⟩ = some (.int .i64 a.kind) := h 0 _ rfl
theorem ra_cl {w : World} {b o : Nat} {a : Act15} (h : w.rangeAt b o (actV a)) : w.rangeAt b (o + 1) (clv a.c) := fun j v hj => by
  rw [Nat.add_assoc]
  exact h (1 + j) v (by rw [Nat.add_comm]; exact hj)

/-- Acts that are not more than is waited for. -/
def lightC (ax : List Act15) : Bool := decide (ax.length ≤ 40) && ax.all fun a => decide (a.c.name.length ≤ 100)
theorem lightC_many {ax : List Act15} (h : 40 < ax.length) : lightC ax = false := by unfold lightC; rw [decide_eq_false (by omega)]; rfl
theorem lightC_long {ax : List Act15} {k : Nat} {a : Act15} (hk : ax[k]? = some a) (h : 100 < a.c.name.length) : lightC ax = false := by
  unfold lightC
  rw [Bool.and_eq_false_iff]
  right
  rw [List.all_eq_false]
  exact ⟨a, List.mem_of_getElem? hk, by simp; omega⟩
theorem lightC_yes {ax : List Act15} (h : ax.length ≤ 40) (hn : ∀ j < ax.length, ∀ a, ax[j]? = some a → a.c.name.length ≤ 100) : lightC ax = true := by
  unfold lightC
  rw [decide_eq_true h, Bool.true_and, List.all_eq_true]
  intro a ha
  obtain ⟨k, hk⟩ := List.mem_iff_getElem?.1 ha
  exact decide_eq_true (hn k (List.getElem?_eq_some_iff.1 hk).1 a hk)
theorem lightC_iff {ax : List Act15} : lightC ax = true ↔ ax.length ≤ 40 ∧ ∀ a ∈ ax, a.c.name.length ≤ 100 := by simp [lightC]
theorem short_step {ax : List Act15} {k : Nat} {x : Act15} (hx : ax[k]? = some x) (h : ∀ j < k, ∀ a, ax[j]? = some a → a.c.name.length ≤ 100) (hc : x.c.name.length ≤ 100) : ∀ j < k + 1, ∀ a, ax[j]? = some a → a.c.name.length ≤ 100 := by
  intro j hj y hy
  rcases Nat.lt_succ_iff_lt_or_eq.1 hj with h1 | rfl
  · exact h j h1 y hy
  · rw [hx] at hy
    injection hy with hy
    rw [← hy]
    exact hc

set_option maxRecDepth 100000 in
set_option maxHeartbeats 2000000 in
theorem clight_any (w : World) (B : Nat) (A : Option Addr) (n c : Nat) (ax : List Act15) (h : LiesV w B A (actsV ax)) (hn : n = ax.length) :
    Calls Try.prog 6 #[.slice A n c] w fun e w' => e = .returned (.bool (lightC ax)) ∧ w = w' := by
  have HL := Lib.hid h
  have Hn := Lib.hid hn
  clear h hn
  by_cases h40 : 40 < n
  · have He := Lib.hid (lightC_many (by rw [← Hn.out]; exact h40))
    go_enter Try.func6, Try.ntmps6
    go_wp2_with fail
    go_ret
    exact ⟨by rw [He.out]; rfl, rfl⟩
  go_enter Try.func6, Try.ntmps6
  go_wp2_with fail
  go_loopw [3] (fun v W => ∃ k : Nat, k ≤ n ∧ v = .int .i64 k ∧ Hid (∀ j < k, ∀ a, ax[j]? = some a → a.c.name.length ≤ 100) ∧ Hid (w = W)) (fun v _ => n - (intOf v).toNat)
  case atStart => exact ⟨0, Nat.zero_le _, rfl, fun j hj => absurd hj (by omega), rfl⟩
  case round =>
    obtain ⟨k, hk, rfl, HS, HW⟩ := hrel
    by_cases hlt : k < n
    · obtain ⟨d, hd⟩ : ∃ d, ax[k]? = some d := ⟨_, List.getElem?_eq_getElem (by rw [← Hn.out]; exact hlt)⟩
      have hlw : LiesV wr B A (actsV ax) := by rw [← HW.out]; exact HL.out
      obtain ⟨b, o, hA, hb, hrg⟩ := lies_act hlw hd
      subst hA
      have hc0 := rc_name (ra_cl hrg)
      have Hd := Lib.hid hd
      obtain ⟨s, hs⟩ : ∃ s : ByteArray, (⟨d.c.name.toArray⟩ : ByteArray) = s := ⟨_, rfl⟩
      obtain ⟨m, hm⟩ : ∃ m, s.size = m := ⟨_, rfl⟩
      have Hml : Hid (d.c.name.length = m) := by show _ = _; rw [← hm, ← hs]; rfl
      rw [hs] at hc0
      clear hlw hd hrg hs
      by_cases h1 : 100 < m
      · have He := Lib.hid (lightC_long Hd.out (by rw [Hml.out]; exact h1))
        go_wp2_with fail
        go_ret
        exact ⟨by rw [He.out]; rfl, HW.out⟩
      · have HS2 := Lib.hid (short_step Hd.out HS.out (by rw [Hml.out]; omega))
        clear HS
        go_wp2_with fail
        go_roundw
        all_goals first
          | (simp [intOf]; omega)
          | exact ⟨k + 1, by omega, by go_num, HS2, HW⟩
    · obtain rfl : k = n := by omega
      have He := Lib.hid (lightC_yes (by rw [← Hn.out]; omega) (by rw [← Hn.out]; exact HS.out))
      go_wp2_with fail
      go_ret
      exact ⟨by rw [He.out]; rfl, HW.out⟩

/-- Classes that lie apart from the blocks of L. -/
def LiesX (w : World) (B : Nat) (L : List Nat) (A : Option Addr) (cs : List Value) : Prop := cs ≠ [] → ∃ b o, A = some ⟨b, o, none⟩ ∧ b < B ∧ b ∉ L ∧ ∀ i v, cs[i]? = some v → w.cell? ⟨b, o + i, none⟩ = some v
def RwL (w : World) (L : List Nat) (v : Value) (l : List Cl) : Prop := ∃ A c, v = .slice A l.length c ∧ (A = none → c = 0) ∧ LiesX w w.heap.size L A (clsV l)
section
variable {w w' : World} {L L' : List Nat} {v v' : Value} {l l' : List Cl}
theorem RwL.rw (h : RwL w L v l) : Rw15 w w.heap.size v l := by
  obtain ⟨A, c, h1, h2, h3⟩ := h
  refine ⟨A, c, h1, h2, fun hx => ?_⟩
  obtain ⟨b, o, e1, e2, _, e4⟩ := h3 hx
  exact ⟨b, o, e1, e2, e4⟩
theorem RwL.nil (w : World) (L : List Nat) : RwL w L (.slice none 0 0) [] := ⟨none, 0, rfl, fun _ => rfl, fun hx => absurd rfl hx⟩
/-- A call on what lies in the blocks of L. -/
theorem RwL.but (h : RwL w L v l) (hb : But L w.heap.size w w') (hL : ∀ k ∈ L', k ∈ L ∨ w.heap.size ≤ k) : RwL w' L' v l := by
  obtain ⟨A, c, h1, h2, h3⟩ := h
  refine ⟨A, c, h1, h2, fun hx => ?_⟩
  obtain ⟨b, o, e1, e2, e3, e4⟩ := h3 hx
  refine ⟨b, o, e1, Nat.lt_of_lt_of_le e2 hb.size, fun hm => ?_, fun i u hi => (World.cell?_of_block (hb.block b e2 e3)).trans (e4 i u hi)⟩
  rcases hL b hm with h | h
  · exact e3 h
  · omega
theorem RwL.below (h : RwL w L v l) (hb : Below w.heap.size w w') : RwL w' L v l := h.but (But.of L hb) (fun k hk => .inl hk)
theorem RwL.drew (h : RwL w L v l) : RwL w.drew L v l := h
/-- What the reference's call hands back. -/
theorem RwL.next (h : RwL w L v l) (hL : ∀ k ∈ L, k < w.heap.size) (hr : Rw15 w' w'.heap.size v' l') (hb : Below w.heap.size w w') (hn : (v' = v ∧ l' = l) ∨ NewV w.heap.size v') : RwL w' L v' l' := by
  rcases hn with ⟨rfl, rfl⟩ | hn
  · exact h.below hb
  · obtain ⟨A, c, rfl, h2, h3⟩ := hr
    refine ⟨A, c, rfl, h2, fun hx => ?_⟩
    obtain ⟨b, o, e1, e2, e4⟩ := h3 hx
    refine ⟨b, o, e1, e2, fun hm => ?_, e4⟩
    have := hn ⟨b, o, none⟩ l'.length c (by rw [e1])
    have h4 := hL b hm
    simp only at this
    omega
end
end Go.Proofs.Ytmcnhcbibcjgnaa
