/-
  Layer 6: the reference's disk in memory ('Ref'); the contracts of its keeps, settle, Flush and Crash.
-/
import Derived.Test.YtamjkmelfpdhiaaDiskRf
namespace Go.Proofs.Ytamjkmelfpdhiaa
open Go.RowKit Go.Maps
set_option linter.unusedVariables false

/-- What lasts and what waits of the reference's disk lie in the rows vl and vw. -/
structure Ref (w : World) (base : Nat) (vl vw : Value) (d : Dk) : Prop where
  last : w.ownsRow base 43 256 vl d.dur.length (secs d.dur)
  wait : w.ownsRow base 70 257 vw d.wait.length (chgs d.wait)
theorem own_one {w : World} {base n : Nat} {e : TypeId} {size : Nat} {v : Value} {xs : List Value} (h : w.ownsRow base e size v n xs) : v.oneCell' = true := by
  obtain ⟨A, c, rfl, _⟩ := own_slice h
  rfl
theorem Ref.below {w w' : World} {base : Nat} {vl vw : Value} {d : Dk} (h : Ref w base vl vw d) (hb : Below w.heap.size w w') : Ref w' base vl vw d := ⟨own_below h.last hb, own_below h.wait hb⟩
theorem Ref.but {w w' : World} {base : Nat} {vl vw : Value} {d : Dk} {L : List Nat} (h : Ref w base vl vw d) (hb : But L w.heap.size w w') (h1 : ∀ k, vl.ownBlock = some k → k ∉ L) (h2 : ∀ k, vw.ownBlock = some k → k ∉ L) : Ref w' base vl vw d :=
  ⟨own_but h.last hb fun k hk => ⟨(h.last.lt k hk).2, h1 k hk⟩, own_but h.wait hb fun k hk => ⟨(h.wait.lt k hk).2, h2 k hk⟩⟩
theorem Ref.lower {w : World} {base base' : Nat} {vl vw : Value} {d : Dk} (h : Ref w base vl vw d) (hb : base' ≤ base) : Ref w base' vl vw d :=
  ⟨own_rebase h.last fun k hk => Nat.le_trans hb (h.last.lt k hk).1, own_rebase h.wait fun k hk => Nat.le_trans hb (h.wait.lt k hk).1⟩

/-- The writes among the first k that are kept. -/
def sel (all : Bool) (keep : List Bool) (ws : List Chg) (k : Nat) : List Chg := if all then ws.take k else Dk.kept (keep.take k) ws
theorem sel_step {all : Bool} {keep : List Bool} {ws : List Chg} {k : Nat} {c : Chg} (hc : ws[k]? = some c) : sel all keep ws (k + 1) = sel all keep ws k ++ (if all || keep.getD k false then [c] else []) := by
  cases all
  · simp only [sel, Bool.false_or, Bool.false_eq_true, if_false]
    rw [List.getD_eq_getElem?_getD]
    rcases hb : keep[k]? with _ | b
    · have hk : keep.length ≤ k := List.getElem?_eq_none_iff.1 hb
      rw [List.take_of_length_le (by omega), List.take_of_length_le (by omega)]
      simp
    · exact kept_step hb hc
  · simp [sel, take_succ' hc]
theorem sel_zero (all : Bool) (keep : List Bool) (ws : List Chg) : sel all keep ws 0 = [] := by cases all <;> simp [sel, Dk.kept]
theorem sel_le (all : Bool) (keep : List Bool) (ws : List Chg) (k : Nat) : (sel all keep ws k).length ≤ k := by
  cases all
  · refine Nat.le_trans (kept_length _ _) ?_
    simp
    omega
  · simp [sel]; omega
theorem sel_at (all : Bool) (keep : List Bool) (ws : List Chg) (k : Nat) : ∀ c ∈ sel all keep ws k, c ∈ ws := by
  cases all
  · intro c hc
    simp only [sel, Dk.kept, Bool.false_eq_true, if_false, List.mem_filterMap] at hc
    obtain ⟨⟨a, b⟩, hab, h⟩ := hc
    have := (List.of_mem_zip hab).1
    by_cases hb : b
    · simp [hb] at h; subst h; exact this
    · simp [hb] at h
  · intro c hc
    simp only [sel, if_true] at hc
    exact List.mem_of_mem_take hc

set_option maxRecDepth 100000 in
set_option maxHeartbeats 4000000 in
theorem rkeeps_any (w : World) (A : Option Addr) (c : Nat) (keep : List Bool) (all : Bool) (k : Nat) (hl : LiesV w w.heap.size A (keep.map Value.bool)) (hm : keep.length ≤ 1000000) :
    Calls Try.prog 40 #[.slice A keep.length c, .bool all, .int .i64 (k : Int)] w fun e w' => e = .returned (.bool (all || keep.getD k false)) ∧ w' = w := by
  cases all
  · rw [Bool.false_or]
    rcases hb : keep[k]? with _ | b
    · have hk : keep.length ≤ k := List.getElem?_eq_none_iff.1 hb
      have Hb : Hid (keep.getD k false = false) := by show _ = _; rw [List.getD_eq_getElem?_getD, hb]; rfl
      have hk' : (keep.length : Int) ≤ (k : Int) := by omega
      clear hl hb
      generalize keep.length = m at *
      go_enter Try.func40, Try.ntmps40
      go_wp2_with fail
      go_ret
      rw [Hb.out]
      exact ⟨rfl, rfl⟩
    · have hk : k < keep.length := (List.getElem?_eq_some_iff.1 hb).1
      have Hb : Hid (keep.getD k false = b) := by show _ = _; rw [List.getD_eq_getElem?_getD, hb]; rfl
      have hk' : (k : Int) < (keep.length : Int) := by omega
      have hk0 : (0 : Int) ≤ (k : Int) := by omega
      obtain ⟨bk, ok, rfl, hbk, hcell⟩ := hl.at_ (i := k) (v := .bool b) (by rw [List.getElem?_map, hb]; rfl)
      clear hl hb
      generalize keep.length = m at *
      go_enter Try.func40, Try.ntmps40
      go_wp2_with fail
      go_ret
      rw [Hb.out]
      exact ⟨rfl, rfl⟩
  · generalize keep.length = m at *
    go_enter Try.func40, Try.ntmps40
    go_wp2_with fail
    go_ret
    exact ⟨rfl, rfl⟩
end Go.Proofs.Ytamjkmelfpdhiaa
