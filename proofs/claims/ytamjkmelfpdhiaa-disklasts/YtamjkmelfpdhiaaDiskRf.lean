/-
  Layer 6: the reference's disk, and the contracts of its step, Fuse and New.
-/
import Derived.Test.YtamjkmelfpdhiaaDiskPe
import Derived.Test.YtamjkmelfpdhiaaStoreV
namespace Go.Proofs.Ytamjkmelfpdhiaa
open Go.RowKit Go.Maps
set_option linter.unusedVariables false

def Dk.fuseI (d : Dk) : Int := match d.fuse with | none => -1 | some n => (n : Int)
/-- The cells of the reference's disk: what lasts lies in the row vl, what waits in the row vw. -/
def rc (vl vw : Value) (d : Dk) : List Value := [vl, vw, .int .i64 (d.steps : Int), .int .i64 d.fuseI, .bool d.down]
def rc0 : List Value := [.slice none 0 0, .slice none 0 0, .int .i64 0, .int .i64 0, .bool false]
theorem Try.zeroR : (Try.prog.info? 32).bind (·.zero) = some (.agg rc0.toArray) := by kernel_rfl
theorem Try.sizeR : (Try.prog.info? 32).map (·.size) = some 5 := by kernel_rfl
theorem rc_size (cs : List Value) (h : cs.length = 5) : (Try.prog.info? 32).map (·.size) = some cs.toArray.size := by rw [List.size_toArray, h]; exact Try.sizeR
theorem rc_all {vl vw : Value} {a b : Int} {c : Bool} (h1 : vl.oneCell' = true) (h2 : vw.oneCell' = true) : ([vl, vw, .int .i64 a, .int .i64 b, .bool c] : List Value).toArray.all (·.oneCell') = true := all_oneCell_toArray (by
  intro u hu
  simp at hu
  rcases hu with rfl | rfl | rfl | rfl | rfl <;> first | assumption | rfl)

set_option maxRecDepth 100000 in
set_option maxHeartbeats 4000000 in
theorem rstep_any (w : World) (vl vw : Value) (d : Dk) (h1 : vl.oneCell' = true) (h2 : vw.oneCell' = true) (hs : d.steps ≤ 1000000) (hf : ∀ n, d.fuse = some n → n ≤ 9223372036854775807) :
    Calls Try.prog 37 #[.agg (rc vl vw d).toArray] w fun e w' => e = .returned (.tuple #[.agg (rc vl vw d.stepped).toArray, .bool (!d.dead)]) ∧ Below w.heap.size w w' := by
  have Ha := fun (a b : Int) (c : Bool) => Lib.hid (rc_all (vl := vl) (vw := vw) (a := a) (b := b) (c := c) h1 h2)
  clear h1 h2
  rcases d with ⟨dur, wait, steps, fuse, down⟩
  generalize hfi : (Dk.mk dur wait steps fuse down).fuseI = fi
  have hcs : rc vl vw ⟨dur, wait, steps, fuse, down⟩ = [vl, vw, .int .i64 (steps : Int), .int .i64 fi, .bool down] := by rw [rc, hfi]
  rw [hcs]
  have Hfi := Lib.hid hfi
  clear hfi hcs
  simp only at hs hf
  go_enter Try.func37, Try.ntmps37
  go_wp2_with ((with_reducible refine at_box 32 ?_); refine wpList_box_rowV rfl 32 _ rfl ([vl, vw, .int .i64 (steps : Int), .int .i64 fi, .bool down]) rfl ?_)
  intro w1 hr1 hb1 hs1
  go_wp2_with ((with_reducible refine at_alloc 32 ?_); refine wpList_alloc_rowV rfl 32 rfl rc0 Try.zeroR ?_)
  intro w2 hr2 hb2 hs2
  have hr12 := hr1.below (by omega) hb2
  go_wp2_with (first
    | ((with_reducible refine at_load 32 ?_); refine wpList_load_row rfl 32 _ rfl (w.heap.size) rfl 32 ([vl, vw, .int .i64 (steps : Int), .int .i64 fi, .bool down]).toArray (0, 0) _ hr12 Try.underlying32 rfl (rc_size _ rfl) ?_)
    | ((with_reducible refine at_alloc 32 ?_); refine wpList_alloc_rowV rfl 32 rfl rc0 Try.zeroR ?_))
  intro w3 hr3 hb3 hs3
  have hr13 := hr12.below (by omega) hb3
  have hr23 := hr2.below (by omega) hb3
  have hB3 : Below w.heap.size w w3 := hb1.trans ((hb2.mono (by omega)).trans (hb3.mono (by omega)))
  have hlt1 : w.heap.size < w.heap.size + 1 := by omega
  have hlt2 : w.heap.size + 1 < w.heap.size + 1 + 1 := by omega
  have hsz : w.heap.size + 1 + 1 < w3.heap.size := by omega
  clear hr1 hb1 hs1 hr2 hb2 hs2 hb3 hs3 hr12
  generalize hN2 : w.heap.size + 1 + 1 = N2 at *
  generalize hN1 : w.heap.size + 1 = N1 at *
  generalize hN : w.heap.size = N at *
  clear hN2 hN1
  go_wp2_with ((with_reducible refine at_store 32 ?_); refine wpList_store_rowV rfl 32 _ _ rfl (N2) ([vl, vw, .int .i64 (steps : Int), .int .i64 fi, .bool down]) rfl rfl 32 (rc0) hr3 (rc_size _ rfl) rfl (Ha _ _ _).out ?_)
  intro w4 hr4 hg4 hs4
  have hr14 := hr13.keep hg4 (fun e => by injection e with e; omega)
  have hr24 := hr23.keep hg4 (fun e => by injection e with e; omega)
  have hB4 : Below N w w4 := below_grown hB3 hg4 (by omega) (by omega)
  have hs4' : N2 < w4.heap.size := by omega
  clear hr3 hr13 hr23 hB3 hg4 hs4 hsz
  have c2 := hr14.cell (i := 2) rfl
  have c3 := hr14.cell (i := 3) rfl
  have c4 := hr14.cell (i := 4) rfl
  have f2 := hr4.free 2
  have f3 := hr4.free 3
  have f4 := hr4.free 4
  have g2 := hr4.cell (i := 2) rfl
  have g3 := hr4.cell (i := 3) rfl
  have g4 := hr4.cell (i := 4) rfl
  cases down
  · rcases fuse with _ | _ | n
    · obtain rfl : fi = -1 := Hfi.out.symm
      have hr5 := hr4.setCell 2 (.int .i64 ((steps : Int) + 1))
      have hr25 := hr24.setCell_other (p := ⟨N2, 2, none⟩) (by show N1 ≠ N2; omega) (.int .i64 ((steps : Int) + 1))
      go_wp2_with (first
        | ((with_reducible refine at_load 32 ?_); refine wpList_load_row rfl 32 _ rfl (N2) rfl 32 ([vl, vw, .int .i64 ((steps : Int) + 1), .int .i64 (-1), .bool false]).toArray (0, 0) _ hr5 Try.underlying32 rfl (rc_size _ rfl) ?_)
        | ((with_reducible refine at_store 32 ?_); refine wpList_store_rowV rfl 32 _ _ rfl (N1) ([vl, vw, .int .i64 ((steps : Int) + 1), .int .i64 (-1), .bool false]) rfl rfl 32 (rc0) hr25 (rc_size _ rfl) rfl (Ha _ _ _).out ?_))
      intro w6 hr6 hg6 hs6
      go_wp2_with fail
      exact bodyPost_ret (results_cell_tmp (fn := Try.f37) rfl _ _ N1 32 _ (0, 0) _ rfl (.bool true) rfl hr6 Try.underlying32 rfl (rc_size _ rfl)) rfl ⟨rfl, by rw [hN]; exact below_grown (hB4.setCell (p := ⟨N2, 2, none⟩) (by show N ≤ N2; omega) _) hg6 (by omega) (by simp; omega)⟩
    · obtain rfl : fi = 0 := Hfi.out.symm
      have hr5 := hr4.setCell 4 (.bool true)
      have hr25 := hr24.setCell_other (p := ⟨N2, 4, none⟩) (by show N1 ≠ N2; omega) (.bool true)
      go_wp2_with (first
        | ((with_reducible refine at_load 32 ?_); refine wpList_load_row rfl 32 _ rfl (N2) rfl 32 ([vl, vw, .int .i64 (steps : Int), .int .i64 0, .bool true]).toArray (0, 0) _ hr5 Try.underlying32 rfl (rc_size _ rfl) ?_)
        | ((with_reducible refine at_store 32 ?_); refine wpList_store_rowV rfl 32 _ _ rfl (N1) ([vl, vw, .int .i64 (steps : Int), .int .i64 0, .bool true]) rfl rfl 32 (rc0) hr25 (rc_size _ rfl) rfl (Ha _ _ _).out ?_))
      intro w6 hr6 hg6 hs6
      go_wp2_with fail
      exact bodyPost_ret (results_cell_tmp (fn := Try.f37) rfl _ _ N1 32 _ (0, 0) _ rfl (.bool false) rfl hr6 Try.underlying32 rfl (rc_size _ rfl)) rfl ⟨rfl, by rw [hN]; exact below_grown (hB4.setCell (p := ⟨N2, 4, none⟩) (by show N ≤ N2; omega) _) hg6 (by omega) (by simp; omega)⟩
    · obtain rfl : fi = (n : Int) + 1 := Hfi.out.symm
      have hn := hf _ rfl
      have hp : (0 : Int) < (n : Int) + 1 := by omega
      have hr5 := (hr4.setCell 3 (.int .i64 (n : Int))).setCell 2 (.int .i64 ((steps : Int) + 1))
      have hr25 := (hr24.setCell_other (p := ⟨N2, 3, none⟩) (by show N1 ≠ N2; omega) (.int .i64 (n : Int))).setCell_other (p := ⟨N2, 2, none⟩) (by show N1 ≠ N2; omega) (.int .i64 ((steps : Int) + 1))
      go_wp2_with (first
        | ((with_reducible refine at_load 32 ?_); refine wpList_load_row rfl 32 _ rfl (N2) rfl 32 ([vl, vw, .int .i64 ((steps : Int) + 1), .int .i64 (n : Int), .bool false]).toArray (0, 0) _ hr5 Try.underlying32 rfl (rc_size _ rfl) ?_)
        | ((with_reducible refine at_store 32 ?_); refine wpList_store_rowV rfl 32 _ _ rfl (N1) ([vl, vw, .int .i64 ((steps : Int) + 1), .int .i64 (n : Int), .bool false]) rfl rfl 32 (rc0) hr25 (rc_size _ rfl) rfl (Ha _ _ _).out ?_))
      intro w6 hr6 hg6 hs6
      go_wp2_with fail
      exact bodyPost_ret (results_cell_tmp (fn := Try.f37) rfl _ _ N1 32 _ (0, 0) _ rfl (.bool true) rfl hr6 Try.underlying32 rfl (rc_size _ rfl)) rfl ⟨rfl, by rw [hN]; exact below_grown ((hB4.setCell (p := ⟨N2, 3, none⟩) (by show N ≤ N2; omega) _).setCell (p := ⟨N2, 2, none⟩) (by show N ≤ N2; omega) _) hg6 (by omega) (by simp; omega)⟩
  · have hr5 := hr4.setCell 4 (.bool true)
    have hr25 := hr24.setCell_other (p := ⟨N2, 4, none⟩) (by show N1 ≠ N2; omega) (.bool true)
    have Hst : Hid (rc vl vw (Dk.stepped ⟨dur, wait, steps, fuse, true⟩) = [vl, vw, .int .i64 (steps : Int), .int .i64 fi, .bool true]) := by show _ = _; rw [← Hfi.out]; rfl
    go_wp2_with (first
        | ((with_reducible refine at_load 32 ?_); refine wpList_load_row rfl 32 _ rfl (N2) rfl 32 ([vl, vw, .int .i64 (steps : Int), .int .i64 fi, .bool true]).toArray (0, 0) _ hr5 Try.underlying32 rfl (rc_size _ rfl) ?_)
        | ((with_reducible refine at_store 32 ?_); refine wpList_store_rowV rfl 32 _ _ rfl (N1) ([vl, vw, .int .i64 (steps : Int), .int .i64 fi, .bool true]) rfl rfl 32 (rc0) hr25 (rc_size _ rfl) rfl (Ha _ _ _).out ?_))
    intro w6 hr6 hg6 hs6
    go_wp2_with fail
    exact bodyPost_ret (results_cell_tmp (fn := Try.f37) rfl _ _ N1 32 _ (0, 0) _ rfl (.bool false) rfl hr6 Try.underlying32 rfl (rc_size _ rfl)) rfl ⟨by rw [Hst.out]; rfl, by rw [hN]; exact below_grown (hB4.setCell (p := ⟨N2, 4, none⟩) (by show N ≤ N2; omega) _) hg6 (by omega) (by simp; omega)⟩

set_option maxRecDepth 100000 in
set_option maxHeartbeats 4000000 in
theorem rfuse_any (w : World) (vl vw : Value) (d : Dk) (x : Int) (h1 : vl.oneCell' = true) (h2 : vw.oneCell' = true) :
    Calls Try.prog 29 #[.agg (rc vl vw d).toArray, .int .i64 x] w fun e w' => e = .returned (.agg (rc vl vw (d.setFuse x)).toArray) ∧ Below w.heap.size w w' := by
  have Ha := fun (a b : Int) (c : Bool) => Lib.hid (rc_all (vl := vl) (vw := vw) (a := a) (b := b) (c := c) h1 h2)
  clear h1 h2
  rcases d with ⟨dur, wait, steps, fuse, down⟩
  generalize hfi : (Dk.mk dur wait steps fuse down).fuseI = fi
  have hcs : rc vl vw ⟨dur, wait, steps, fuse, down⟩ = [vl, vw, .int .i64 (steps : Int), .int .i64 fi, .bool down] := by rw [rc, hfi]
  rw [hcs]
  have Hfi := Lib.hid hfi
  clear hfi hcs
  go_enter Try.func29, Try.ntmps29
  go_wp2_with ((with_reducible refine at_box 32 ?_); refine wpList_box_rowV rfl 32 _ rfl ([vl, vw, .int .i64 (steps : Int), .int .i64 fi, .bool down]) rfl ?_)
  intro w1 hr1 hb1 hs1
  go_wp2_with ((with_reducible refine at_alloc 32 ?_); refine wpList_alloc_rowV rfl 32 rfl rc0 Try.zeroR ?_)
  intro w2 hr2 hb2 hs2
  have hr12 := hr1.below (by omega) hb2
  go_wp2_with (first
    | ((with_reducible refine at_load 32 ?_); refine wpList_load_row rfl 32 _ rfl (w.heap.size) rfl 32 ([vl, vw, .int .i64 (steps : Int), .int .i64 fi, .bool down]).toArray (0, 0) _ hr12 Try.underlying32 rfl (rc_size _ rfl) ?_)
    | ((with_reducible refine at_alloc 32 ?_); refine wpList_alloc_rowV rfl 32 rfl rc0 Try.zeroR ?_))
  intro w3 hr3 hb3 hs3
  have hr13 := hr12.below (by omega) hb3
  have hr23 := hr2.below (by omega) hb3
  have hB3 : Below w.heap.size w w3 := hb1.trans ((hb2.mono (by omega)).trans (hb3.mono (by omega)))
  have hlt1 : w.heap.size < w.heap.size + 1 := by omega
  have hlt2 : w.heap.size + 1 < w.heap.size + 1 + 1 := by omega
  have hsz : w.heap.size + 1 + 1 < w3.heap.size := by omega
  clear hr1 hb1 hs1 hr2 hb2 hs2 hb3 hs3 hr12
  generalize hN2 : w.heap.size + 1 + 1 = N2 at *
  generalize hN1 : w.heap.size + 1 = N1 at *
  generalize hN : w.heap.size = N at *
  clear hN2 hN1
  go_wp2_with ((with_reducible refine at_store 32 ?_); refine wpList_store_rowV rfl 32 _ _ rfl (N2) ([vl, vw, .int .i64 (steps : Int), .int .i64 fi, .bool down]) rfl rfl 32 (rc0) hr3 (rc_size _ rfl) rfl (Ha _ _ _).out ?_)
  intro w4 hr4 hg4 hs4
  have hr14 := hr13.keep hg4 (fun e => by injection e with e; omega)
  have hr24 := hr23.keep hg4 (fun e => by injection e with e; omega)
  have hB4 : Below N w w4 := below_grown hB3 hg4 (by omega) (by omega)
  have hs4' : N2 < w4.heap.size := by omega
  clear hr3 hr13 hr23 hB3 hg4 hs4 hsz
  have f3 := hr4.free 3
  have g3 := hr4.cell (i := 3) rfl
  by_cases hx : x < 0
  · have hr5 := (hr4.setCell 3 (.int .i64 x)).setCell 3 (.int .i64 (-1))
    have hr25 := (hr24.setCell_other (p := ⟨N2, 3, none⟩) (by show N1 ≠ N2; omega) (.int .i64 x)).setCell_other (p := ⟨N2, 3, none⟩) (by show N1 ≠ N2; omega) (.int .i64 (-1))
    have f3' := (hr4.setCell 3 (.int .i64 x)).free 3
    have g3' := (hr4.setCell 3 (.int .i64 x)).cell (i := 3) rfl
    have Hst : Hid (rc vl vw (Dk.setFuse ⟨dur, wait, steps, fuse, down⟩ x) = [vl, vw, .int .i64 (steps : Int), .int .i64 (-1), .bool down]) := by show _ = _; simp [rc, Dk.setFuse, Dk.fuseI, hx]
    go_wp2_with (first
      | ((with_reducible refine at_load 32 ?_); refine wpList_load_row rfl 32 _ rfl (N2) rfl 32 ([vl, vw, .int .i64 (steps : Int), .int .i64 (-1), .bool down]).toArray (0, 0) _ hr5 Try.underlying32 rfl (rc_size _ rfl) ?_)
      | ((with_reducible refine at_store 32 ?_); refine wpList_store_rowV rfl 32 _ _ rfl (N1) ([vl, vw, .int .i64 (steps : Int), .int .i64 (-1), .bool down]) rfl rfl 32 (rc0) hr25 (rc_size _ rfl) rfl (Ha _ _ _).out ?_))
    intro w6 hr6 hg6 hs6
    go_wp2_with fail
    exact bodyPost_ret (results_cell_row (fn := Try.f29) rfl _ _ N1 32 _ (0, 0) _ rfl hr6 Try.underlying32 rfl (rc_size _ rfl)) rfl ⟨by rw [Hst.out], by rw [hN]; exact below_grown ((hB4.setCell (p := ⟨N2, 3, none⟩) (by show N ≤ N2; omega) _).setCell (p := ⟨N2, 3, none⟩) (by show N ≤ N2; omega) _) hg6 (by omega) (by simp; omega)⟩
  · have hr5 := hr4.setCell 3 (.int .i64 x)
    have hr25 := hr24.setCell_other (p := ⟨N2, 3, none⟩) (by show N1 ≠ N2; omega) (.int .i64 x)
    have Hst : Hid (rc vl vw (Dk.setFuse ⟨dur, wait, steps, fuse, down⟩ x) = [vl, vw, .int .i64 (steps : Int), .int .i64 x, .bool down]) := by
      show _ = _
      have : ((x.toNat : Nat) : Int) = x := by omega
      simp [rc, Dk.setFuse, Dk.fuseI, hx, this]
    go_wp2_with (first
      | ((with_reducible refine at_load 32 ?_); refine wpList_load_row rfl 32 _ rfl (N2) rfl 32 ([vl, vw, .int .i64 (steps : Int), .int .i64 x, .bool down]).toArray (0, 0) _ hr5 Try.underlying32 rfl (rc_size _ rfl) ?_)
      | ((with_reducible refine at_store 32 ?_); refine wpList_store_rowV rfl 32 _ _ rfl (N1) ([vl, vw, .int .i64 (steps : Int), .int .i64 x, .bool down]) rfl rfl 32 (rc0) hr25 (rc_size _ rfl) rfl (Ha _ _ _).out ?_))
    intro w6 hr6 hg6 hs6
    go_wp2_with fail
    exact bodyPost_ret (results_cell_row (fn := Try.f29) rfl _ _ N1 32 _ (0, 0) _ rfl hr6 Try.underlying32 rfl (rc_size _ rfl)) rfl ⟨by rw [Hst.out], by rw [hN]; exact below_grown (hB4.setCell (p := ⟨N2, 3, none⟩) (by show N ≤ N2; omega) _) hg6 (by omega) (by simp; omega)⟩

theorem rc0_all : rc0.toArray.all (·.oneCell') = true := by simp [rc0, Value.oneCell']
theorem zeroRv (w : World) : (zeroValue 32).run Try.prog w = .ok (.agg rc0.toArray) w := by kernel_rfl
set_option maxRecDepth 100000 in
set_option maxHeartbeats 4000000 in
theorem rnew_bad (w : World) (x : Int) (hx : x < 1 ∨ 4096 < x) : Calls Try.prog 9 #[.int .i64 x] w fun e w' => e = .returned (.tuple #[.agg rc0.toArray, .int .i64 2]) ∧ Below w.heap.size w w' := by
  go_enter Try.func9, Try.ntmps9
  go_wp2_with ((with_reducible refine at_alloc 32 ?_); refine wpList_alloc_rowV rfl 32 rfl rc0 Try.zeroR ?_)
  intro w1 hr1 hb1 hs1
  have hz := zeroRv
  go_wp2_with ((with_reducible refine at_store 32 ?_); refine wpList_store_rowV rfl 32 _ _ rfl (w.heap.size) (rc0) rfl rfl 32 (rc0) hr1 (rc_size _ rfl) rfl rc0_all ?_)
  all_goals first | (exfalso; omega) | skip
  all_goals
    intro w2 hr2 hg2 hs2
    go_wp2_with fail
    exact bodyPost_ret (results_cell_tmp (fn := Try.f9) rfl _ _ w.heap.size 32 _ (0, 0) _ rfl (.int .i64 2) rfl hr2 Try.underlying32 rfl (rc_size _ rfl)) rfl ⟨rfl, below_grown hb1 hg2 (Nat.le_refl _) (by omega)⟩
set_option maxRecDepth 100000 in
set_option maxHeartbeats 4000000 in
theorem rnew_any (w : World) (n : Nat) (h1 : 1 ≤ n) (h2 : n ≤ 4096) : Calls Try.prog 9 #[.int .i64 (n : Int)] w fun e w' => ∃ vl, e = .returned (.tuple #[.agg (rc vl (.slice none 0 0) (Dk.new n)).toArray, .int .i64 0]) ∧ w'.ownsRow w.heap.size 43 256 vl n (secs (List.replicate n zeroSec)) ∧ Below w.heap.size w w' := by
  obtain ⟨i0, hi, hz0, hz1, hz2⟩ := info_parts Try.infoS
  go_enter Try.func9, Try.ntmps9
  go_wp2_with ((with_reducible refine at_alloc 32 ?_); refine wpList_alloc_rowV rfl 32 rfl rc0 Try.zeroR ?_)
  intro w1 hr1 hb1 hs1
  go_wp2_with (first
    | (at_make; refine wpList_make_full _ rfl _ _ 29 rfl (w.heap.size + 1) 43 i0 zeroSec.val 256 Try.underlying29 hi hz0 hz1 .i64 .i64 _ _ n rfl rfl rfl rfl (by rw [hz2]; omega) (by unfold maxLen; omega) (by omega) ?_; intro w2 hown hgrow; rw [made_secs] at hown; have hb2 : Below (w.heap.size + 1) w1 w2 := ⟨hgrow.os, hgrow.tape, hgrow.output, hgrow.size, fun k hk => hgrow.block k (by omega) (by simp)⟩; have hr2 := hr1.below (by omega) hb2; have hsz : w.heap.size + 1 ≤ w2.heap.size := (by have := hgrow.size; omega))
    | ((with_reducible refine at_build 32 ?_); refine wpList_build_to rfl 32 _ rfl [Value.slice (some ⟨w1.heap.size, 0, none⟩) n n, .slice none 0 0, .int .i64 0, .int .i64 (-1), .bool false] (by kernel_rfl) ?_)
    | ((with_reducible refine at_store 32 ?_); refine wpList_store_rowV rfl 32 _ _ rfl (w.heap.size) ([Value.slice (some ⟨w1.heap.size, 0, none⟩) n n, .slice none 0 0, .int .i64 0, .int .i64 (-1), .bool false]) rfl rfl 32 (rc0) hr2 (rc_size _ rfl) rfl (by simp [Value.oneCell']) ?_))
  intro w3 hr3 hg3 hs3
  rw [hs1] at hown
  go_wp2_with fail
  refine bodyPost_ret (results_cell_tmp (fn := Try.f9) rfl _ _ w.heap.size 32 _ (0, 0) _ rfl (.int .i64 0) rfl hr3 Try.underlying32 rfl (rc_size _ rfl)) rfl ⟨_, rfl, ?_, below_grown (hb1.trans (hb2.mono (by omega))) hg3 (Nat.le_refl _) (by omega)⟩
  exact own_rebase (hown.kept hg3 (.inr (by intro e; have := (hown.lt _ e).1; omega))) fun k hk => by have := (hown.lt _ hk).1; omega
end Go.Proofs.Ytamjkmelfpdhiaa
