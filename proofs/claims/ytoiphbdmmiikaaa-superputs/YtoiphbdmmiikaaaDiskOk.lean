/-
  Layer 6: what is done to a disk keeps its numbers small.
-/
import Derived.Test.YtoiphbdmmiikaaaDiskCr
namespace Go.Proofs.Ytoiphbdmmiikaaa
open Go.RowKit Go.Maps
set_option linter.unusedVariables false

theorem new_ok {n : Nat} (h1 : 1 ≤ n) (h2 : n ≤ 4096) : (Dk.new n).Ok := by
  refine ⟨(by intro c hc; cases hc), ?_, ?_, by simp [Dk.new], by simp [Dk.new], (by intro m hm; simp [Dk.new] at hm)⟩
  · show 0 < (List.replicate n zeroSec).length
    rw [List.length_replicate]; omega
  · show (List.replicate n zeroSec).length ≤ 4096
    rw [List.length_replicate]; exact h2
theorem stepped_steps (d : Dk) : d.stepped.steps ≤ d.steps + 1 := by unfold Dk.stepped; split <;> simp
theorem write_ok {d : Dk} {x : Int} {s : Sec} {k : Nat} (h : d.Ok) (hs : d.steps ≤ k) (hw : d.wait.length ≤ k) (hk : k < 1000000) : (d.write x s).1.Ok ∧ (d.write x s).1.steps ≤ k + 1 ∧ (d.write x s).1.wait.length ≤ k + 1 ∧ (d.write x s).1.dur.length = d.dur.length := by
  have ho := h.stepped (by omega)
  have h1 := stepped_steps d
  unfold Dk.write
  split
  · rename_i hh
    split
    · exact ⟨ho, by show d.stepped.steps ≤ _; omega, by show d.stepped.wait.length ≤ _; rw [stepped_wait]; omega, by show d.stepped.dur.length = _; rw [stepped_dur]⟩
    · have hx : 0 ≤ x ∧ x < d.dur.length := by simpa [Dk.has] using hh
      refine ⟨⟨?_, ho.pos, ho.dur, ?_, ho.steps, ho.fuse⟩, by show d.stepped.steps ≤ _; omega, ?_, by show d.stepped.dur.length = _; rw [stepped_dur]⟩
      · intro c hc
        show c.1 < d.stepped.dur.length
        rw [stepped_dur]
        rcases List.mem_append.1 hc with hc | hc
        · exact h.at_ c hc
        · simp at hc
          subst hc
          show x.toNat < _
          omega
      · show (d.wait ++ [(x.toNat, s)]).length ≤ _
        rw [List.length_append]; simp; omega
      · show (d.wait ++ [(x.toNat, s)]).length ≤ _
        rw [List.length_append]; simp; omega
  · exact ⟨h, by show d.steps ≤ _; omega, by show d.wait.length ≤ _; omega, rfl⟩
theorem flush_ok {d : Dk} {k : Nat} (h : d.Ok) (hs : d.steps ≤ k) (hw : d.wait.length ≤ k) (hk : k < 1000000) : d.flush.1.Ok ∧ d.flush.1.steps ≤ k + 1 ∧ d.flush.1.wait.length ≤ k + 1 ∧ d.flush.1.dur.length = d.dur.length := by
  have ho := h.stepped (by omega)
  have h1 := stepped_steps d
  unfold Dk.flush
  split
  · exact ⟨ho, by show d.stepped.steps ≤ _; omega, by show d.stepped.wait.length ≤ _; rw [stepped_wait]; omega, by show d.stepped.dur.length = _; rw [stepped_dur]⟩
  · refine ⟨⟨(by intro c hc; cases hc), ?_, ?_, by simp, ho.steps, ho.fuse⟩, by show d.stepped.steps ≤ _; omega, by simp, ?_⟩
    · show 0 < (Dk.settle d.dur d.wait).length
      rw [settle_length]; exact h.pos
    · show (Dk.settle d.dur d.wait).length ≤ _
      rw [settle_length]; exact h.dur
    · show (Dk.settle d.dur d.wait).length = _
      rw [settle_length]
theorem crash_ok {d : Dk} {keep : List Bool} (h : d.Ok) : (d.crash keep).1.Ok ∧ (d.crash keep).1.steps = d.steps ∧ (d.crash keep).1.wait.length = 0 ∧ (d.crash keep).1.dur.length = d.dur.length := by
  refine ⟨⟨(by intro c hc; cases hc), ?_, ?_, by simp [Dk.crash], h.steps, (by intro m hm; simp [Dk.crash] at hm)⟩, rfl, rfl, ?_⟩
  · show 0 < (Dk.settle d.dur _).length
    rw [settle_length]; exact h.pos
  · show (Dk.settle d.dur _).length ≤ _
    rw [settle_length]; exact h.dur
  · show (Dk.settle d.dur _).length = _
    rw [settle_length]
theorem setFuse_ok {d : Dk} {x : Int} (h : d.Ok) (hx : x ≤ 9223372036854775807) : (d.setFuse x).Ok := by
  refine ⟨h.at_, h.pos, h.dur, h.wait, h.steps, fun n hn => ?_⟩
  simp only [Dk.setFuse] at hn
  split at hn
  · cases hn
  · injection hn with hn
    omega
end Go.Proofs.Ytoiphbdmmiikaaa
