/-
  Layer 6: the contract of Read.
-/
import Derived.Test.YtoiphbdmmiikaaaDiskB
import Derived.Test.YtoiphbdmmiikaaaBuild
import Derived.Maps.OwnOps
namespace Go.Proofs.Ytoiphbdmmiikaaa
open Go.RowKit Go.Maps
set_option linter.unusedVariables false

theorem Try.zeroS : (Try.prog.info? 24).bind (·.zero) = some (.agg zeroSec.cs.toArray) := by kernel_rfl
theorem zeroSv (w : World) : (zeroValue 24).run Try.prog w = .ok (.agg zeroSec.cs.toArray) w := by kernel_rfl
theorem zero3 (w : World) : (zeroValue 3).run Try.prog w = .ok (.int .i64 0) w := by kernel_rfl
theorem keyed3 : Keyed Try.prog 3 := int_keyed Try.underlying3
theorem sec_size (s : Sec) : (Try.prog.info? 24).map (·.size) = some s.cs.length := by rw [Sec.cs_length]; exact Try.sizeSec
theorem sec_size' (s : Sec) : (Try.prog.info? 24).map (·.size) = some s.cs.toArray.size := by rw [List.size_toArray]; exact sec_size s
theorem sec_all (s : Sec) : s.cs.toArray.all (·.oneCell') = true := all_oneCell_toArray s.one

theorem sec_same (s t : Sec) : s.cs.toArray.size = t.cs.toArray.size := by rw [List.size_toArray, List.size_toArray, Sec.cs_length, Sec.cs_length]
/-- What a look into the map of the last writes answers. -/
theorem look_run {w : World} {base g bm : Nat} {vd vw : Value} {d : Dk} (h : DiskAt w base g vd vw bm d) (hk : d.Ok) (i : Nat) (hi : i < d.dur.length) :
    (∃ (j : Nat) (c : Chg), d.wait[j]? = some c ∧ c.2 = Dk.look d.dur d.wait i ∧ (Instr.lookup 69 (.map (some bm)) (.int .i64 (i : Int)) true).run Try.prog w = .ok (.tuple #[.int .i64 (j : Int), .bool true]) w) ∨
    (∃ z, Dk.look d.dur d.wait i = d.dur.getD i zeroSec ∧ (Instr.lookup 69 (.map (some bm)) (.int .i64 (i : Int)) true).run Try.prog w = .ok (.tuple #[z, .bool false]) w) := by
  have hd := hk.dur
  obtain ⟨v, ps, hrun, hv⟩ := h.map.look_ok keyed3 Try.underlying69 (zero3 w) (plainElem_int Try.underlying3 (by decide)) (keyOf_int_mk Try.underlying3 (a := (i : Int)) (WalkArith.wf_i64 (by omega)))
  obtain ⟨c, rfl, hc, hwc⟩ := plainElem_int_inv Try.underlying3 hv
  rcases lastD_tells d.dur d.wait i with ⟨h1, j, ch, h2, h3, h4⟩ | ⟨h1, h2⟩
  · rw [h1] at hrun
    rw [h3] at hc
    have e : c = (j : Int) := by
      have := congrArg Prod.fst hc
      simp at this
      exact this.symm
    subst e
    exact .inl ⟨j, ch, h2, h4, hrun⟩
  · rw [h1] at hrun
    exact .inr ⟨_, h2, hrun⟩

set_option maxRecDepth 100000 in
set_option maxHeartbeats 2000000 in
theorem dread_any (w : World) (base g bm : Nat) (vd vw : Value) (d : Dk) (x : Int) (hk : d.Ok) (h : DiskAt w base g vd vw bm d) :
    Calls Try.prog 34 #[.pointer (some ⟨g, 0, none⟩), .int .i64 x] w fun e w' => e = .returned (.tuple #[(d.read x).1.val, .int .i64 (d.read x).2]) ∧ Below w.heap.size w w' := by
  have Hk := Lib.hid hk
  have HD := Lib.hid h
  clear h hk
  cases hh : d.has x
  · have Hv : Hid (d.read x = (zeroSec, 2)) := by show _ = _; simp [Dk.read, hh]
    go_enter Try.func34, Try.ntmps34
    go_wp2_with ((with_reducible refine at_alloc 24 ?_); refine wpList_alloc_rowV rfl 24 rfl zeroSec.cs Try.zeroS ?_; intro w1 hr1 hb1 hs1)
    refine (dhas_any w1 base g bm vd vw d x (HD.out.below hb1)).mono ?_
    rintro e w2 ⟨rfl, rfl⟩
    rw [hh]
    have hz := zeroSv
    go_wp2_with (((with_reducible refine at_store 24 ?_); refine wpList_store_row rfl 24 _ _ rfl w.heap.size zeroSec.cs.toArray rfl rfl 24 zeroSec.cs.toArray hr1 (sec_size' _) rfl (sec_all _) ?_))
    clear hz
    exact bodyPost_ret (results_cell_tmp (fn := Try.f34) rfl _ _ w.heap.size 24 _ (0, 0) _ rfl (.int .i64 2) rfl (hr1.put zeroSec.cs) Try.underlying24 rfl (sec_size' _)) rfl ⟨by rw [Hv.out]; rfl, below_put hb1 (Nat.le_refl _) _⟩
  · have hx : 0 ≤ x ∧ x < d.dur.length := by simpa [Dk.has] using hh
    obtain ⟨i, rfl⟩ := Int.eq_ofNat_of_zero_le hx.1
    have hi : i < d.dur.length := by omega
    clear hx
    cases hdn : d.down
    · have Hv : Hid (d.read (i : Int) = (Dk.look d.dur d.wait i, 0)) := by show _ = _; simp [Dk.read, hh, hdn]
      go_enter Try.func34, Try.ntmps34
      go_wp2_with ((with_reducible refine at_alloc 24 ?_); refine wpList_alloc_rowV rfl 24 rfl zeroSec.cs Try.zeroS ?_; intro w1 hr1 hb1 hs1)
      have HD1 := Lib.hid (HD.out.below hb1)
      refine (dhas_any w1 base g bm vd vw d (i : Int) HD1.out).mono ?_
      rintro e w2 ⟨rfl, rfl⟩
      rw [hh]
      have c6 := HD1.out.c6
      rw [hdn] at c6
      have c2 := HD1.out.c2
      rcases look_run HD1.out Hk.out i hi with ⟨j, c, hj, hc, hl⟩ | ⟨z, hc, hl⟩
      · have hjl : j < d.wait.length := (List.getElem?_eq_some_iff.1 hj).1
        have c1 := HD1.out.c1
        obtain ⟨gw, cap, rfl, _, _, _, _⟩ := own_form HD1.out.wait (by omega)
        have hr := chg_sec HD1.out.wait hj
        have hjl' : (j : Int) < (d.wait.length : Int) := by omega
        have hj0 : (0 : Int) ≤ (j : Int) := by omega
        have Hc := Lib.hid hc
        have Hs := Lib.hid (sec_size c.2)
        clear hi hj hc hjl HD
        generalize d.wait.length = n at *
        go_wp2_with (first
          | ((with_reducible refine at_load 24 ?_); refine wpList_load_mid rfl 24 _ rfl gw (j * 257 + 1) rfl c.2.cs _ hr Try.underlying24 rfl Hs.out ?_)
          | ((with_reducible refine at_store 24 ?_); refine wpList_store_row rfl 24 _ _ rfl w.heap.size c.2.cs.toArray rfl rfl 24 zeroSec.cs.toArray hr1 (sec_size' _) (sec_same _ _) (sec_all _) ?_))
        exact bodyPost_ret (results_cell_tmp (fn := Try.f34) rfl _ _ w.heap.size 24 _ (0, 0) _ rfl (.int .i64 0) rfl (hr1.put c.2.cs) Try.underlying24 rfl (sec_size' _)) rfl ⟨by rw [Hv.out, ← Hc.out]; rfl, below_put hb1 (Nat.le_refl _) _⟩
      · have c0 := HD1.out.c0
        obtain ⟨gd, cap, rfl, _, _, _, _⟩ := own_form HD1.out.dur (by omega)
        have hget : d.dur[i]? = some (d.dur.getD i zeroSec) := by rw [List.getD_eq_getElem?_getD, List.getElem?_eq_getElem hi]; rfl
        have hr := sec_range HD1.out.dur hget
        generalize d.dur.getD i zeroSec = s at *
        have hi' : (i : Int) < (d.dur.length : Int) := by omega
        have hi0 : (0 : Int) ≤ (i : Int) := by omega
        have Hc := Lib.hid hc
        have Hs := Lib.hid (sec_size s)
        clear hi hc HD hget
        generalize d.dur.length = n at *
        go_wp2_with (first
          | ((with_reducible refine at_load 24 ?_); refine wpList_load_mid rfl 24 _ rfl gd (i * 256) rfl s.cs _ hr Try.underlying24 rfl Hs.out ?_)
          | ((with_reducible refine at_store 24 ?_); refine wpList_store_row rfl 24 _ _ rfl w.heap.size s.cs.toArray rfl rfl 24 zeroSec.cs.toArray hr1 (sec_size' _) (sec_same _ _) (sec_all _) ?_))
        exact bodyPost_ret (results_cell_tmp (fn := Try.f34) rfl _ _ w.heap.size 24 _ (0, 0) _ rfl (.int .i64 0) rfl (hr1.put s.cs) Try.underlying24 rfl (sec_size' _)) rfl ⟨by rw [Hv.out, Hc.out]; rfl, below_put hb1 (Nat.le_refl _) _⟩
    · have Hv : Hid (d.read (i : Int) = (zeroSec, 4)) := by show _ = _; simp [Dk.read, hh, hdn]
      go_enter Try.func34, Try.ntmps34
      go_wp2_with ((with_reducible refine at_alloc 24 ?_); refine wpList_alloc_rowV rfl 24 rfl zeroSec.cs Try.zeroS ?_; intro w1 hr1 hb1 hs1)
      have HD1 := Lib.hid (HD.out.below hb1)
      refine (dhas_any w1 base g bm vd vw d (i : Int) HD1.out).mono ?_
      rintro e w2 ⟨rfl, rfl⟩
      rw [hh]
      have c6 := HD1.out.c6
      rw [hdn] at c6
      have hz := zeroSv
      go_wp2_with (((with_reducible refine at_store 24 ?_); refine wpList_store_row rfl 24 _ _ rfl w.heap.size zeroSec.cs.toArray rfl rfl 24 zeroSec.cs.toArray hr1 (sec_size' _) rfl (sec_all _) ?_))
      exact bodyPost_ret (results_cell_tmp (fn := Try.f34) rfl _ _ w.heap.size 24 _ (0, 0) _ rfl (.int .i64 4) rfl (hr1.put zeroSec.cs) Try.underlying24 rfl (sec_size' _)) rfl ⟨by rw [Hv.out]; rfl, below_put hb1 (Nat.le_refl _) _⟩
end Go.Proofs.Ytoiphbdmmiikaaa
