/-
  Layer 6: the contracts of the reference's Flush and Crash.
-/
import Derived.Test.YtamjkmelfpdhiaaDiskSe
namespace Go.Proofs.Ytamjkmelfpdhiaa
open Go.RowKit Go.Maps
set_option linter.unusedVariables false

/-- The row v' is the row v, or a new one. -/
def Newer (w : World) (v v' : Value) : Prop := ∀ k, v'.ownBlock = some k → v.ownBlock = some k ∨ w.heap.size ≤ k
theorem Newer.refl (w : World) (v : Value) : Newer w v v := fun _ h => .inl h
theorem Newer.nil (w : World) (v : Value) : Newer w v (.slice none 0 0) := fun k h => by simp [Value.ownBlock] at h
theorem Newer.of_own {w w' : World} {base n : Nat} {e : TypeId} {size : Nat} {v v' : Value} {xs : List Value} (h : w'.ownsRow base e size v' n xs) (hb : w.heap.size ≤ base) : Newer w v v' := fun k hk => .inr (Nat.le_trans hb (h.lt k hk).1)
theorem stepped_dur (d : Dk) : d.stepped.dur = d.dur := by unfold Dk.stepped; split <;> rfl
theorem stepped_wait (d : Dk) : d.stepped.wait = d.wait := by unfold Dk.stepped; split <;> rfl
theorem Ref.stepped {w : World} {base : Nat} {vl vw : Value} {d : Dk} (h : Ref w base vl vw d) : Ref w base vl vw d.stepped := ⟨by rw [stepped_dur]; exact h.last, by rw [stepped_wait]; exact h.wait⟩
theorem sel_all (keep : List Bool) (ws : List Chg) : sel true keep ws ws.length = ws := by simp [sel]
theorem sel_kept (keep : List Bool) (ws : List Chg) : sel false keep ws ws.length = Dk.kept keep ws := kept_all keep ws _ (by omega)

set_option maxRecDepth 100000 in
set_option maxHeartbeats 8000000 in
theorem rflush_any (w : World) (base : Nat) (vl vw : Value) (d : Dk) (hk : d.Ok) (hks : d.stepped.Ok) (hb : base ≤ w.heap.size) (h : Ref w base vl vw d) :
    Calls Try.prog 27 #[.agg (rc vl vw d).toArray] w fun e w' => ∃ vl' vw', e = .returned (.tuple #[.agg (rc vl' vw' d.flush.1).toArray, .int .i64 d.flush.2]) ∧ Ref w' base vl' vw' d.flush.1 ∧ Below w.heap.size w w' ∧ Newer w vl vl' ∧ Newer w vw vw' := by
  have o1 := own_one h.last
  have o2 := own_one h.wait
  have HR := Lib.hid h
  have Hk := Lib.hid hk
  have Hks := Lib.hid hks
  clear h hk hks
  go_enter Try.func27, Try.ntmps27
  go_wp2_with ((with_reducible refine at_box 32 ?_); refine wpList_box_rowV rfl 32 _ rfl (rc vl vw d) rfl ?_)
  intro w1 hr1 hb1 hs1
  go_wp2_with ((with_reducible refine at_alloc 32 ?_); refine wpList_alloc_rowV rfl 32 rfl rc0 Try.zeroR ?_)
  intro w2 hr2 hb2 hs2
  have hr12 := hr1.below (by omega) hb2
  go_wp2_with ((with_reducible refine at_load 32 ?_); refine wpList_load_row rfl 32 _ rfl (w.heap.size) rfl 32 (rc vl vw d).toArray (0, 0) _ hr12 Try.underlying32 rfl (rc_size _ rfl) ?_)
  refine (rstep_any w2 vl vw d o1 o2 Hk.out.steps Hk.out.fuse).mono ?_
  rintro e w3 ⟨rfl, hb3⟩
  have hr13 := hr12.below (by omega) hb3
  have hr23 := hr2.below (by omega) hb3
  have hB3 : Below w.heap.size w w3 := hb1.trans ((hb2.mono (by omega)).trans (hb3.mono (by omega)))
  have hsz3 : w.heap.size + 1 < w3.heap.size := by have := hb3.size; omega
  cases hdd : d.dead
  · have Hv : Hid (d.flush = ({ d.stepped with dur := Dk.settle d.dur d.wait, wait := [] }, 0)) := by show _ = _; simp [Dk.flush, hdd]
    go_wp2_with ((with_reducible refine at_alloc 32 ?_); refine wpList_alloc_rowV rfl 32 rfl rc0 Try.zeroR ?_)
    intro w4 hr4 hb4 hs4
    go_wp2_with ((with_reducible refine at_store 32 ?_); refine wpList_store_rowV rfl 32 _ _ rfl (w3.heap.size) (rc vl vw d.stepped) rfl rfl 32 (rc0) hr4 (rc_size _ rfl) rfl (rc_all o1 o2) ?_)
    intro w5 hr5 hg5 hs5
    have hr25 := (hr23.below (by omega) hb4).keep hg5 (by intro e; injection e with e; omega)
    have hB5 : Below w.heap.size w w5 := below_grown (hB3.trans (hb4.mono (by omega))) hg5 (by omega) (by omega)
    go_wp2_with ((with_reducible refine at_load 32 ?_); refine wpList_load_row rfl 32 _ rfl (w3.heap.size) rfl 32 (rc vl vw d.stepped).toArray (0, 0) _ hr5 Try.underlying32 rfl (rc_size _ rfl) ?_)
    have hR5 : Ref w5 base vl vw d.stepped := (HR.out.below hB5).stepped
    have hl5 : LiesV w5 w5.heap.size none (([] : List Bool).map Value.bool) := LiesV.nil _ _ _
    refine (rsettle_any w5 base vl vw d.stepped none 0 [] true Hks.out hl5 (by simp) hR5).mono ?_
    rintro e w6 ⟨vl', rfl, ho6, hb6⟩
    rw [stepped_wait, sel_all, stepped_dur] at ho6
    rw [stepped_wait, sel_all, stepped_dur]
    have ov := own_one ho6
    have hr26 := hr25.below (by omega) hb6
    have hB6 : Below w.heap.size w w6 := hB5.trans (hb6.mono hB5.size)
    have hsz6 : w.heap.size + 1 < w6.heap.size := by have := hb6.size; omega
    generalize hd' : ({ d.stepped with dur := Dk.settle d.dur d.wait, wait := [] } : Dk) = d' at *
    go_wp2_with ((with_reducible refine at_alloc 32 ?_); refine wpList_alloc_rowV rfl 32 rfl rc0 Try.zeroR ?_)
    intro w7 hr7 hb7 hs7
    go_wp2_with ((with_reducible refine at_store 32 ?_); refine wpList_store_rowV rfl 32 _ _ rfl (w6.heap.size) (rc vl' (.slice none 0 0) d') rfl rfl 32 (rc0) hr7 (rc_size _ rfl) rfl (rc_all ov rfl) ?_)
    intro w8 hr8 hg8 hs8
    have hr28 := (hr26.below (by omega) hb7).keep hg8 (by intro e; injection e with e; omega)
    have hB8 : Below w.heap.size w w8 := below_grown (hB6.trans (hb7.mono (by omega))) hg8 (by omega) (by omega)
    go_wp2_with (first
      | ((with_reducible refine at_load 32 ?_); refine wpList_load_row rfl 32 _ rfl (w6.heap.size) rfl 32 (rc vl' (.slice none 0 0) d').toArray (0, 0) _ hr8 Try.underlying32 rfl (rc_size _ rfl) ?_)
      | ((with_reducible refine at_store 32 ?_); refine wpList_store_rowV rfl 32 _ _ rfl (w.heap.size + 1) (rc vl' (.slice none 0 0) d') rfl rfl 32 (rc0) hr28 (rc_size _ rfl) rfl (rc_all ov rfl) ?_))
    intro w9 hr9 hg9 hs9
    go_wp2_with fail
    have ho7 := own_below ho6 hb7
    have hlt6 : ∀ k, vl'.ownBlock = some k → k < w6.heap.size := fun k hk => (ho6.lt k hk).2
    have ho8 := ho7.kept hg8 (.inr (by intro e; have := hlt6 _ e; omega))
    have ho9 := ho8.kept hg9 (.inr (by intro e; have := (ho6.lt _ e).1; omega))
    have hb5' : w.heap.size ≤ w5.heap.size := hB5.size
    refine bodyPost_ret (results_cell_tmp (fn := Try.f27) rfl _ _ (w.heap.size + 1) 32 _ (0, 0) _ rfl (.int .i64 0) rfl hr9 Try.underlying32 rfl (rc_size _ rfl)) rfl ⟨vl', .slice none 0 0, by rw [Hv.out], ?_, below_grown hB8 hg9 (by omega) hB8.size, Newer.of_own ho9 hb5', Newer.nil _ _⟩
    rw [Hv.out]
    refine ⟨?_, ?_⟩
    · rw [← hd']
      show World.ownsRow _ _ _ _ _ (Dk.settle d.dur d.wait).length _
      rw [settle_length]
      exact own_rebase ho9 fun k hk => by have := (ho9.lt k hk).1; omega
    · rw [← hd']
      exact World.ownsRow_nil _ _ _ _
  · have Hv : Hid (d.flush = (d.stepped, 4)) := by show _ = _; simp [Dk.flush, hdd]
    go_wp2_with ((with_reducible refine at_alloc 32 ?_); refine wpList_alloc_rowV rfl 32 rfl rc0 Try.zeroR ?_)
    intro w4 hr4 hb4 hs4
    go_wp2_with ((with_reducible refine at_store 32 ?_); refine wpList_store_rowV rfl 32 _ _ rfl (w3.heap.size) (rc vl vw d.stepped) rfl rfl 32 (rc0) hr4 (rc_size _ rfl) rfl (rc_all o1 o2) ?_)
    intro w5 hr5 hg5 hs5
    have hr25 := (hr23.below (by omega) hb4).keep hg5 (by intro e; injection e with e; omega)
    have hB5 : Below w.heap.size w w5 := below_grown (hB3.trans (hb4.mono (by omega))) hg5 (by omega) (by omega)
    go_wp2_with (first
      | ((with_reducible refine at_load 32 ?_); refine wpList_load_row rfl 32 _ rfl (w3.heap.size) rfl 32 (rc vl vw d.stepped).toArray (0, 0) _ hr5 Try.underlying32 rfl (rc_size _ rfl) ?_)
      | ((with_reducible refine at_store 32 ?_); refine wpList_store_rowV rfl 32 _ _ rfl (w.heap.size + 1) (rc vl vw d.stepped) rfl rfl 32 (rc0) hr25 (rc_size _ rfl) rfl (rc_all o1 o2) ?_))
    intro w9 hr9 hg9 hs9
    go_wp2_with fail
    refine bodyPost_ret (results_cell_tmp (fn := Try.f27) rfl _ _ (w.heap.size + 1) 32 _ (0, 0) _ rfl (.int .i64 4) rfl hr9 Try.underlying32 rfl (rc_size _ rfl)) rfl ⟨vl, vw, by rw [Hv.out], ?_, below_grown hB5 hg9 (by omega) hB5.size, Newer.refl _ _, Newer.refl _ _⟩
    rw [Hv.out]
    exact (HR.out.below (below_grown hB5 hg9 (by omega) hB5.size)).stepped
end Go.Proofs.Ytamjkmelfpdhiaa
