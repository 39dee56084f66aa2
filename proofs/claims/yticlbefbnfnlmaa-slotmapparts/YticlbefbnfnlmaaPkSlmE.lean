/-
  Layer 10: the contract of the laws' all.
  Layer 10: the contracts of Last and First.
-/
import Derived.Test.YticlbefbnfnlmaaPkSlmD
import Derived.Test.YticlbefbnfnlmaaPkSlmR
namespace Go.Proofs.Yticlbefbnfnlmaa
open Go.RowKit Go.Shelf
set_option linter.unusedVariables false
attribute [local go_sem] Oper.semAt_some

theorem Try.info3s : (Try.prog.info? 3).map (fun i => (i.zero, i.size, i.bytes)) = some (some (.int .i64 0), 1, 8) := by kernel_rfl
set_option maxRecDepth 100000 in
set_option maxHeartbeats 2000000 in
theorem lall_any (w : World) (b g c : Nat) (ss : List UInt8) (h : MapAt w b g c ss) (what : Int) :
    Calls Try.prog 27 #[.pointer (some ⟨b, 0, none⟩), .int .i64 what] w fun e w' => ∃ v, e = .returned v ∧ w'.ownsRow w.heap.size 3 1 v (ofS ss what).length (nats (ofS ss what)) ∧ Below w.heap.size w w' := by
  obtain ⟨i0, hi, hz0, hz1, hz2⟩ := info_parts Try.info3s
  have hb1 : Below w.heap.size w (w.alloc (.cells #[.slice none 0 0] 28)) := (Below.refl _ _).alloc (Nat.le_refl _) _
  have Hh := Lib.hid (h.later hb1)
  have o1 : One (w.alloc (.cells #[.slice none 0 0] 28)) w.heap.size (.slice none 0 0) 28 := One.new w _ _
  have hlen := ofS_length ss what
  have hle := h.le
  clear h
  refine calls_of_wp_marks Try.func27 rfl ?_
  simp only [Try.ntmps27, List.size_toArray, List.length_cons, List.length_nil, Nat.reduceAdd, Nat.reduceSub, Array.replicate_succ, Array.replicate_zero, List.push_toArray, List.append_toArray, List.nil_append, List.cons_append]
  go_wp2_with fail
  refine (sall_any _ b g c ss Hh.out what).mono ?_
  rintro e w2 ⟨a', b', g', c', rfl, hI, hlt, hb2⟩
  have o2 := o1.below hb2 (by simp)
  have hB2 : Below w.heap.size w w2 := hb1.trans (hb2.mono (by simp))
  have hs2 : w.heap.size + 1 ≤ w2.heap.size := by simpa using hb2.size
  have hlt2 : ∀ k ∈ [a', b', g'], w.heap.size + 1 ≤ k := fun k hk => by simpa using hlt k hk
  have hlt3 := hI.lt
  clear hb1 hb2 o1 hlt
  generalize hN : w.heap.size = N at *
  go_wp2_with fail
  refine wp_rangeFunc ?_
  obtain ⟨M, hM⟩ : ∃ M, w2.heap.size = M := ⟨_, rfl⟩
  refine wpIn_rangeFunc_ownG (F := Fence.wide) rfl (by omega) (gf := 32) (lb := #[.pointer (some ⟨a', 0, none⟩), .pointer (some ⟨b', 0, none⟩)]) rfl trivial (enters_of Try.func32 (by kernel_rfl) rfl)
    (siter_stops Fence.wide 2 trivial rfl (by omega) a' b' g' c' what ss w2 hI) (fun h k => h.trans k) (keepsL_b hI.lt) (Below.refl _ _) (fun _ => rfl)
    (fun pre W => ∃ v, One W N v 28 ∧ W.ownsRow M 3 1 v pre.length (nats (pre.map (·.1))) ∧ Below N w W ∧ M ≤ W.heap.size)
    (fun _ _ _ => False)
    (ownFrom_stays (fun s W W' h hs => by obtain ⟨v, h1, h2, h3, h4⟩ := h; exact ⟨v, hs.one h1, hs.own h2, hs.bel (by omega) (by omega) h3, Nat.le_trans h4 hs.size⟩))
    (fun _ _ _ _ _ hs _ _ => hs)
    ⟨_, o2, World.ownsRow_nil _ _ _ _, hB2, by omega⟩
    (fun x => { tmps := #[.pointer (some ⟨b, 0, none⟩), .int .i64 what, undef, undef, .slice none 0 0, .pointer (some ⟨N, 0, none⟩), .int .i64 (x.1 : Int), .pointer (some ⟨b, 0, none⟩), .int .i64 what, .func (.func 32) #[] #[.pointer (some ⟨a', 0, none⟩), .pointer (some ⟨b', 0, none⟩)], .int .i64 (x.1 : Int), undef, undef, undef, undef, undef], defers := [] }) ?assign ?body ?done ?stop
  case assign =>
    intro l x W K hK
    gi_wp2
    exact hK
  case body =>
    rintro l pre x W ⟨v, hv, hrow, hB, hs⟩ hpl
    have hc := hv.cell
    have hv' : Boxed W N 28 v := hv
    gi_wp2_with (gi_at_builtin; refine wpListIn_append_own _ rfl _ _ 28 rfl M 3 i0 (.int .i64 0) 1 8 Try.underlying28 hi hz0 hz1 hz2 rfl (by decide) _ _ _ rfl (hrow.alloc _) ⟨W.heap.size, 0, none⟩ 1 1 [.int .i64 (x.1 : Int)] rfl rfl (cell_one_new _ _ _) (by simp [Value.oneCell']) (by unfold maxLen; omega) (by omega) (by simp; omega) ?_; intro v' w1 hown' hgrow _; obtain ⟨g1, cap1, rfl⟩ := ownsRow_succ hown'; obtain ⟨hv1, hv2, hr2, hk2, hb2⟩ := hv'.appended (by decide) (own_rebase (base' := N) hrow (fun k hk => by have := own_ge hrow k hk; omega)) (by omega) (Nat.le_refl _) (own_rebase (base' := N) hown' (fun k hk => by have := own_ge hown' k hk; omega)) hgrow; have hc1 := hv1.cell; have hf1 := hv1.frozen)
    refine ⟨hk2.from _, ?_, _, hv2, ?_, hB.trans hb2, Nat.le_trans hs hk2.size⟩
    · intro k hk
      have h1 := hlt2 k hk
      have h2 := hlt3 k hk
      rw [Below.heap_setCell _ _ _ _ (by simp; omega)]
      exact ((hgrow.block k (by simp; omega) (fun e => by have := own_ge hrow k e.symm; omega)).trans (Below.heap_alloc _ _ _ (by omega)))
    · rw [List.length_append, List.length_singleton, List.map_append, List.map_singleton, nats_snoc]
      exact own_rebase hr2 (fun k hk => own_ge hown' k hk)
  case done =>
    rintro D ys W hD hS ⟨v, hv, hrow, hB, hs⟩ hK
    have hc := hv.cell
    have hl : ys.length = (ofS ss what).length := by rw [← hS, List.length_map]
    rw [hS, hl] at hrow
    go_wp2_with fail
    refine ⟨by simp, .inl ⟨_, _, rfl, run_takeDeferred hK, ?_⟩⟩
    have hst := stays_put hD hK (.deferred none)
    refine ⟨_, results_tmp rfl _ _ _, _, rfl, ?_, ?_⟩
    · rw [hN]
      exact own_rebase (hst.own hrow) (fun k hk => by have := own_ge hrow k hk; omega)
    · rw [hN]
      exact hst.bel (by omega) (by omega) hB
  case stop =>
    rintro D c pre W _ _ h _
    exact h.elim
end Go.Proofs.Yticlbefbnfnlmaa
namespace Go.Proofs.Yticlbefbnfnlmaa
open Go.RowKit Go.Shelf
set_option linter.unusedVariables false
attribute [local go_sem] Oper.semAt_some

def lastF {n : Nat} (l : List (Fin n)) : Int := match l.getLast? with | none => -1 | some x => (x.1 : Int)
theorem lastF_snoc {n : Nat} (l : List (Fin n)) (x : Fin n) : lastF (l ++ [x]) = (x.1 : Int) := by simp [lastF]
theorem lastF_eq {ss : List UInt8} {what : Int} {l : List (Fin ss.length)} (h : l.map (·.1) = ofS ss what) : lastF l = lastS ss what := by
  unfold lastF lastS
  rw [← h, List.getLast?_map]
  cases l.getLast? <;> rfl

set_option maxRecDepth 100000 in
set_option maxHeartbeats 2000000 in
theorem slast_any (w : World) (b g c : Nat) (ss : List UInt8) (h : MapAt w b g c ss) (what : Int) :
    Calls Try.prog 22 #[.pointer (some ⟨b, 0, none⟩), .int .i64 what] w fun e w' => e = .returned (.int .i64 (lastS ss what)) ∧ Below w.heap.size w w' := by
  have hb1 : Below w.heap.size w (w.alloc (.cells #[.int .i64 (-1)] 3)) := (Below.refl _ _).alloc (Nat.le_refl _) _
  have Hh := Lib.hid (h.later hb1)
  have o1 : One (w.alloc (.cells #[.int .i64 (-1)] 3)) w.heap.size (.int .i64 (-1)) 3 := One.new w _ _
  have hlen := ofS_length ss what
  have hle := h.le
  clear h
  refine calls_of_wp_marks Try.func22 rfl ?_
  simp only [Try.ntmps22, List.size_toArray, List.length_cons, List.length_nil, Nat.reduceAdd, Nat.reduceSub, Array.replicate_succ, Array.replicate_zero, List.push_toArray, List.append_toArray, List.nil_append, List.cons_append]
  go_wp2_with fail
  refine (sall_any _ b g c ss Hh.out what).mono ?_
  rintro e w2 ⟨a', b', g', c', rfl, hI, hlt, hb2⟩
  have o2 := o1.below hb2 (by simp)
  have hB2 : Below w.heap.size w w2 := hb1.trans (hb2.mono (by simp))
  have hs2 : w.heap.size + 1 ≤ w2.heap.size := by simpa using hb2.size
  have hlt2 : ∀ k ∈ [a', b', g'], w.heap.size + 1 ≤ k := fun k hk => by simpa using hlt k hk
  clear hb1 hb2 o1 hlt
  generalize hN : w.heap.size = N at *
  go_wp2_with fail
  refine wp_rangeFunc ?_
  refine wpIn_rangeFunc_ownG (F := Fence.wide) rfl (by omega) (gf := 32) (lb := #[.pointer (some ⟨a', 0, none⟩), .pointer (some ⟨b', 0, none⟩)]) rfl trivial (enters_of Try.func32 (by kernel_rfl) rfl)
    (siter_stops Fence.wide 2 trivial rfl (by omega) a' b' g' c' what ss w2 hI) (fun h k => h.trans k) (keepsL_b hI.lt) (Below.refl _ _) (fun _ => rfl)
    (fun pre W => One W N (.int .i64 (lastF pre)) 3 ∧ Below N w W ∧ w2.heap.size ≤ W.heap.size)
    (fun _ _ _ => False)
    (ownFrom_stays (fun s W W' h hs => ⟨hs.one h.1, hs.bel (by omega) (by omega) h.2.1, Nat.le_trans h.2.2 hs.size⟩))
    (fun _ _ _ _ _ hs _ _ => hs)
    ⟨o2, hB2, Nat.le_refl _⟩
    (fun x => { tmps := #[.pointer (some ⟨b, 0, none⟩), .int .i64 what, undef, undef, .int .i64 0, .pointer (some ⟨N, 0, none⟩), .int .i64 (x.1 : Int), .pointer (some ⟨b, 0, none⟩), .int .i64 what, .func (.func 32) #[] #[.pointer (some ⟨a', 0, none⟩), .pointer (some ⟨b', 0, none⟩)], .int .i64 (x.1 : Int), undef, undef], defers := [] }) ?assign ?body ?done ?stop
  case assign =>
    intro l x W K hK
    gi_wp2
    exact hK
  case body =>
    rintro l pre x W ⟨ho, hB, hs⟩ hpl
    have hc := ho.cell
    have hf := ho.free
    gi_wp2
    have hg := grown_cell10 W N 0 (.int .i64 (x.1 : Int))
    refine ⟨(KeepsOthers.setCell _ _ _).from _, KeepsL.of hg (fun k hk => ⟨by have := hlt2 k hk; have := hI.lt k hk; omega, fun e => by have := hlt2 k hk; injection e with e; omega⟩), ?_, hB.setCell (p := ⟨N, 0, none⟩) (Nat.le_refl _) _, by simpa using hs⟩
    have := ho.set (.int .i64 (x.1 : Int))
    rw [lastF_snoc]
    exact this
  case done =>
    rintro D ys W hD hS ⟨ho, hB, hs⟩ hK
    have hc := ho.cell
    have hl := lastF_eq hS
    go_wp2_with fail
    refine ⟨by simp, .inl ⟨_, _, rfl, run_takeDeferred hK, ?_⟩⟩
    refine ⟨_, results_tmp rfl _ _ _, ?_, ?_⟩
    · rw [← hl]; rfl
    · rw [hN]
      exact (stays_put hD hK _).bel (by omega) (by omega) hB
  case stop =>
    rintro D c pre W _ _ h _
    exact h.elim

theorem firstS_of {ss : List UInt8} {what : Int} {x : Nat} (h : [x] <+: ofS ss what) : firstS ss what = (x : Int) := by
  obtain ⟨t, ht⟩ := h
  unfold firstS
  rw [← ht]
  rfl
set_option maxRecDepth 100000 in
set_option maxHeartbeats 2000000 in
theorem sfirst_any (w : World) (b g c : Nat) (ss : List UInt8) (h : MapAt w b g c ss) (what : Int) :
    Calls Try.prog 20 #[.pointer (some ⟨b, 0, none⟩), .int .i64 what] w fun e w' => e = .returned (.int .i64 (firstS ss what)) ∧ Below w.heap.size w w' := by
  have hb1 : Below w.heap.size w (w.alloc (.cells #[.int .i64 0] 3)) := (Below.refl _ _).alloc (Nat.le_refl _) _
  have Hh := Lib.hid (h.later hb1)
  have o1 : One (w.alloc (.cells #[.int .i64 0] 3)) w.heap.size (.int .i64 0) 3 := One.new w _ _
  clear h
  refine calls_of_wp_marks Try.func20 rfl ?_
  simp only [Try.ntmps20, List.size_toArray, List.length_cons, List.length_nil, Nat.reduceAdd, Nat.reduceSub, Array.replicate_succ, Array.replicate_zero, List.push_toArray, List.append_toArray, List.nil_append, List.cons_append]
  go_wp2_with fail
  refine (sall_any _ b g c ss Hh.out what).mono ?_
  rintro e w2 ⟨a', b', g', c', rfl, hI, hlt, hb2⟩
  have o2 := o1.below hb2 (by simp)
  have hB2 : Below w.heap.size w w2 := hb1.trans (hb2.mono (by simp))
  have hs2 : w.heap.size + 1 ≤ w2.heap.size := by simpa using hb2.size
  have hlt2 : ∀ k ∈ [a', b', g'], w.heap.size + 1 ≤ k := fun k hk => by simpa using hlt k hk
  clear hb1 hb2 o1 hlt
  generalize hN : w.heap.size = N at *
  go_wp2_with fail
  refine wp_rangeFunc ?_
  refine wpIn_rangeFunc_ownG (F := Fence.wide) rfl (by omega) (gf := 32) (lb := #[.pointer (some ⟨a', 0, none⟩), .pointer (some ⟨b', 0, none⟩)]) rfl trivial (enters_of Try.func32 (by kernel_rfl) rfl)
    (siter_stops Fence.wide 2 trivial rfl (by omega) a' b' g' c' what ss w2 hI) (fun h k => h.trans k) (keepsL_b hI.lt) (Below.refl _ _) (fun _ => rfl)
    (fun pre W => pre = [] ∧ One W N (.int .i64 0) 3 ∧ Below N w W)
    (fun c pre W => c = .ret ∧ ∃ x, pre = [x] ∧ One W N (.int .i64 (x.1 : Int)) 3 ∧ Below N w W)
    (ownFrom_stays (fun s W W' h hs => ⟨h.1, hs.one h.2.1, hs.bel (by omega) (by omega) h.2.2⟩))
    (fun c => ownFrom_stays (fun s W W' h hs => ⟨h.1, by obtain ⟨x, h1, h2, h3⟩ := h.2; exact ⟨x, h1, hs.one h2, hs.bel (by omega) (by omega) h3⟩⟩))
    ⟨rfl, o2, hB2⟩
    (fun x => { tmps := #[.pointer (some ⟨b, 0, none⟩), .int .i64 what, undef, undef, .pointer (some ⟨N, 0, none⟩), .int .i64 (x.1 : Int), .pointer (some ⟨b, 0, none⟩), .int .i64 what, .func (.func 32) #[] #[.pointer (some ⟨a', 0, none⟩), .pointer (some ⟨b', 0, none⟩)], .int .i64 (x.1 : Int), undef], defers := [] }) ?assign ?body ?done ?stop
  case assign =>
    intro l x W K hK
    gi_wp2
    exact hK
  case body =>
    rintro l pre x W ⟨rfl, ho, hB⟩ hpl
    have hc := ho.cell
    have hf := ho.free
    gi_wp2
    exact ⟨(KeepsOthers.setCell _ _ _).from _, rfl, x, rfl, ho.set _, hB.setCell (p := ⟨N, 0, none⟩) (Nat.le_refl _) _⟩
  case done =>
    rintro D ys W hD hS ⟨rfl, ho, hB⟩ hK
    have hc := ho.cell
    have hf := ho.free
    have hl : firstS ss what = -1 := by unfold firstS; rw [← hS]; rfl
    go_wp2_with fail
    have hK' : (W.setCell ⟨N, 0, none⟩ (.int .i64 (-1))).heap[D]? = some (.deferred (some [])) := (Below.heap_setCell _ _ _ _ (by simp; omega)).trans hK
    refine ⟨by simp, .inl ⟨_, _, rfl, run_takeDeferred hK', ?_⟩⟩
    have hst := stays_put hD hK' (.deferred none)
    have ho5 := (hst.one (ho.set (.int .i64 (-1)))).cell
    refine ⟨.int .i64 (-1), by simp [results, Try.f20, go_sem, ho5], by rw [hl], ?_⟩
    rw [hN]
    exact hst.bel (by omega) (by omega) (hB.setCell (p := ⟨N, 0, none⟩) (Nat.le_refl _) _)
  case stop =>
    rintro D c pre W hD hp ⟨rfl, x, rfl, ho, hB⟩ hK
    have hl := firstS_of hp
    gi_wp2
    refine ⟨by simp, .inl ⟨_, _, rfl, run_takeDeferred hK, ?_⟩⟩
    have hst := stays_put hD hK (.deferred none)
    have ho5 := (hst.one ho).cell
    refine ⟨.int .i64 (x.1 : Int), by simp [results, Try.f20, go_sem, ho5], by first | rfl | rw [hl], ?_⟩
    first
      | exact hst.bel (by omega) (by omega) hB
      | (rw [hN]; exact hst.bel (by omega) (by omega) hB)
end Go.Proofs.Yticlbefbnfnlmaa
