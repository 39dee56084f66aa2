/-
  Layer 12: the contracts of slices.Chunk at entries, and of the iterator that it answers.
-/
import Derived.Test.YtiglffkbaddefaaPkShlB
import Derived.Test.YtiglffkbaddefaaPkRangeM
namespace Go.Proofs.Ytiglffkbaddefaa
open Go.RowKit Go.Shelf
set_option linter.unusedVariables false
set_option linter.unusedSimpArgs false
attribute [local go_sem] Oper.semAt_some

/-- What the iterator holds: the box of the row, the box of the parts' size. -/
structure CutAt (w : World) (a b g c m : Nat) : Prop where
  sl : One w a (.slice (some ⟨g, 0, none⟩) (m * 6) c) 22
  sz : One w b (.int .i64 6) 3
  le : m * 6 ≤ c
  cap : c ≤ maxLen
section
variable {w w' : World} {a b g c m : Nat}
theorem CutAt.keeps (h : CutAt w a b g c m) (hk : KeepsL [a, b] w w') : CutAt w' a b g c m := ⟨(hk a (by simp)).trans h.sl, (hk b (by simp)).trans h.sz, h.le, h.cap⟩
theorem CutAt.lt (h : CutAt w a b g c m) : ∀ k ∈ [a, b], k < w.heap.size := by
  intro k hk
  have h1 := h.sl.lt
  have h2 := h.sz.lt
  simp only [List.mem_cons, List.not_mem_nil, or_false] at hk
  rcases hk with rfl | rfl <;> assumption
theorem CutAt.below {B : Nat} (h : CutAt w a b g c m) (hB : Below B w w') (hk : ∀ k ∈ [a, b], k < B) : CutAt w' a b g c m := h.keeps (fun k hm => hB.block k (hk k hm))
end
theorem range_prefix {k m : Nat} (h : k ≤ m) : List.range k <+: List.range m := by
  obtain ⟨d, rfl⟩ : ∃ d, m = k + d := ⟨m - k, by omega⟩
  rw [List.range_add]
  exact List.prefix_append _ _

set_option maxRecDepth 100000 in
set_option maxHeartbeats 4000000 in
theorem chunk_in (F : Fence) (n : Nat) (hf : F.fn 47) (hro : F.round = none) (hn : 1 ≤ n) (l a b g c m : Nat) (hm : m ≤ 100) (J Jx : List (Fin m) → World → Prop)
    (hY : ∀ pre x W, J pre W → pre.length < m → YieldAt F (n - 1) Try.prog l #[.slice (some ⟨g, x.1 * 6 * 34, none⟩) 6 6] W fun e W' =>
      (e = .returned (.bool true) ∧ J (pre ++ [x]) W' ∧ KeepsL [a, b] W W') ∨ (e = .returned (.bool false) ∧ Jx (pre ++ [x]) W'))
    (hJd : ∀ pre W, J pre W → J pre W.drew)
    (W : World) (hI : CutAt W a b g c m) (h0 : J [] W) :
    CallsIn F n Try.prog 47 #[.func (.yield l) #[] #[], .pointer (some ⟨a, 0, none⟩), .pointer (some ⟨b, 0, none⟩)] W fun e W' => (∃ v, e = .returned v) ∧
      ((∃ ys, ys.map (·.1) = List.range m ∧ J ys W') ∨ (∃ pre, pre.map (·.1) <+: List.range m ∧ Jx pre W')) := by
  have hle := hI.le
  have hcap := hI.cap
  unfold maxLen at hcap
  have HI := Lib.hid hI
  refine callsIn_of_wp Try.func47 rfl hf ?_ hro
  simp only [Try.ntmps47, List.size_toArray, List.length_cons, List.length_nil, Nat.reduceAdd, Nat.reduceSub, Array.replicate_succ, Array.replicate_zero, List.push_toArray, List.append_toArray, List.nil_append, List.cons_append]
  gi_wp2
  gi_loopw [4] (fun i wr => ∃ (k : Nat) (pre : List (Fin m)), k ≤ m ∧ i = .int .i64 ((k * 6 : Nat) : Int) ∧ Hid (pre.map (·.1) = List.range k) ∧ J pre wr ∧ Hid (KeepsL [a, b] W wr))
    (fun i _ => m * 6 - (intOf i).toNat)
  case atStart => exact ⟨0, [], Nat.zero_le _, rfl, rfl, h0, KeepsL.refl _ _⟩
  case round =>
    obtain ⟨k, pre, hk, rfl, Hp, hJ, HK⟩ := hrel
    have hIr := HI.out.keeps HK.out
    have cA := hIr.sl.cell
    have cB := hIr.sz.cell
    by_cases hlt : k < m
    · have hlt' : ((k * 6 : Nat) : Int) < ((m * 6 : Nat) : Int) := by omega
      have h6 : k * 6 < m * 6 := by omega
      have hck : ¬ c = k * 6 := by omega
      have hpl : pre.length < m := by
        have := congrArg List.length Hp.out
        rw [List.length_map, List.length_range] at this
        omega
      have h66 : k * 6 + 6 - k * 6 = 6 := by omega
      obtain ⟨fn, tmps, assign, body, hy, hR⟩ := hY pre ⟨k, hlt⟩ wr.drew (hJd _ _ hJ) hpl
      have Hp1 : Hid ((pre ++ [(⟨k, hlt⟩ : Fin m)]).map (·.1) = List.range (k + 1)) := by
        show _ = _
        rw [List.map_append, Hp.out, List.range_succ]
        rfl
      have hi6 : ((k * 6 : Nat) : Int) + 6 ≤ (c : Int) := by omega
      dsimp only at hy
      gi_wp2
      gi_region
      all_goals
        rw [if_neg (show ¬ ((m * 6 - k * 6 : Nat) : Int) < 6 by omega)]
        gi_wp2
        refine hR.mono ?_
        rintro e W3 (⟨rfl, hJ3, hk3⟩ | ⟨rfl, hJx3⟩)
        · have cB3 := (CutAt.keeps (w := wr.drew) ⟨hIr.sl, hIr.sz, hIr.le, hIr.cap⟩ hk3).sz.cell
          clear cA cB hy hR
          gi_wp2
          go_roundw
          case rel => exact ⟨k + 1, _, by omega, by congr 1; omega, Hp1, hJ3, HK.out.trans hk3⟩
          case measure => simp [intOf]; omega
        · gi_wp2
          refine bodyPost_ret (results_none rfl _ _ _) rfl ?_
          exact ⟨⟨_, rfl⟩, .inr ⟨_, by rw [Hp1.out]; exact range_prefix (by omega), hJx3⟩⟩
    · obtain rfl : k = m := by omega
      gi_wp2
      go_end0
      exact ⟨⟨_, rfl⟩, .inl ⟨_, Hp.out, hJ⟩⟩

theorem chunk_stops (F : Fence) (n : Nat) (hf : F.fn 47) (hro : F.round = none) (hn : 1 ≤ n) (a b g c m : Nat) (hm : m ≤ 100) (w : World) (hI : CutAt w a b g c m) :
    SeqStopsK F n Try.prog 47 #[.pointer (some ⟨a, 0, none⟩), .pointer (some ⟨b, 0, none⟩)] (fun x : Fin m => #[Value.slice (some ⟨g, x.1 * 6 * 34, none⟩) 6 6]) (KeepsL [a, b]) (fun ys => ys.map (·.1) = List.range m) (fun pre => pre.map (·.1) <+: List.range m) m w :=
  fun l J Jx W hW hJ _ hY h0 => chunk_in F n hf hro hn l a b g c m hm J Jx hY (fun pre W h => hJ pre W W.drew none h ⟨rfl, rfl, rfl, Nat.le_refl _, fun _ _ _ => rfl⟩ (by simp)) W (hI.below hW hI.lt) h0

set_option maxRecDepth 100000 in
set_option maxHeartbeats 1000000 in
/-- Chunk of a row whose length six divides. -/
theorem chunk_any (w : World) (g c m : Nat) (h : m * 6 ≤ c) (hc : c ≤ maxLen) :
    Calls Try.prog 30 #[.slice (some ⟨g, 0, none⟩) (m * 6) c, .int .i64 6] w fun e w' => ∃ a b, e = .returned (.func (.func 47) #[] #[.pointer (some ⟨a, 0, none⟩), .pointer (some ⟨b, 0, none⟩)]) ∧ CutAt w' a b g c m ∧ (∀ k ∈ [a, b], w.heap.size ≤ k) ∧ Below w.heap.size w w' := by
  have H := Lib.hid h
  have Hc := Lib.hid hc
  have o1 : One (w.alloc (.cells #[.slice (some ⟨g, 0, none⟩) (m * 6) c] 22)) w.heap.size (.slice (some ⟨g, 0, none⟩) (m * 6) c) 22 := One.new w _ _
  have o2 := One.new (w.alloc (.cells #[.slice (some ⟨g, 0, none⟩) (m * 6) c] 22)) (.int .i64 6) 3
  rw [World.size_alloc] at o2
  have hb : Below w.heap.size w ((w.alloc (.cells #[.slice (some ⟨g, 0, none⟩) (m * 6) c] 22)).alloc (.cells #[.int .i64 6] 3)) := ((Below.refl _ w).alloc (Nat.le_refl _) _).alloc (by simp) _
  have c2 := o2.cell
  have O2 := Lib.hid o2
  have O1 := Lib.hid o1
  have HB := Lib.hid hb
  clear o1 o2 hb h hc
  go_enter Try.func30, Try.ntmps30
  go_wp2_with fail
  go_ret
  refine ⟨w.heap.size, w.heap.size + 1, rfl, ⟨O1.out.alloc _, O2.out, H.out, Hc.out⟩, ?_, HB.out⟩
  intro k hk
  simp only [List.mem_cons, List.not_mem_nil, or_false] at hk
  omega
end Go.Proofs.Ytiglffkbaddefaa
