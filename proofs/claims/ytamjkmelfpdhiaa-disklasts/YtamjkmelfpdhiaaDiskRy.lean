/-
  Layer 6: the contract of the reference's Read.
-/
import Derived.Test.YtamjkmelfpdhiaaDiskRx
namespace Go.Proofs.Ytamjkmelfpdhiaa
open Go.RowKit Go.Maps
set_option linter.unusedVariables false

set_option maxRecDepth 100000 in
set_option maxHeartbeats 8000000 in
theorem rread_any (w : World) (base : Nat) (vl vw : Value) (d : Dk) (x : Int) (hk : d.Ok) (h : Ref w base vl vw d) :
    Calls Try.prog 26 #[.agg (rc vl vw d).toArray, .int .i64 x] w fun e w' => e = .returned (.tuple #[(d.read x).1.val, .int .i64 (d.read x).2]) ∧ Below w.heap.size w w' := by
  obtain ⟨gl, cl, hvl, _, _, _, hgl⟩ := own_form h.last hk.pos
  obtain ⟨Aw, cw, hvw, _, _⟩ := own_slice h.wait
  have Hvl := Lib.hid hvl
  have Hvw := Lib.hid hvw
  have HR := Lib.hid h
  have Hk := Lib.hid hk
  have hpn := hk.wait
  clear hvl hvw h hk
  generalize hnd : d.dur.length = Nd at *
  have Hnd := Lib.hid hnd
  clear hnd
  cases hh : d.has x
  · have Hv : Hid (d.read x = (zeroSec, 2)) := by show _ = _; simp [Dk.read, hh]
    have hx : x < 0 ∨ (Nd : Int) ≤ x := by
      simp [Dk.has, Hnd.out] at hh
      omega
    go_enter Try.func26, Try.ntmps26
    go_wp2_with ((with_reducible refine at_box 32 ?_); refine wpList_box_rowV rfl 32 _ rfl (rc vl vw d) rfl ?_)
    intro w1 hr1 hb1 hs1
    go_wp2_with ((with_reducible refine at_alloc 43 ?_); refine wpList_alloc_rowV rfl 43 rfl zeroSec.cs Try.zeroS ?_)
    intro w2 hr2 hb2 hs2
    have hr12 := hr1.below (by omega) hb2
    have hB2 : Below w.heap.size w w2 := hb1.trans (hb2.mono (by omega))
    have hlt1 : w.heap.size < w.heap.size + 1 := by omega
    have hsz2 : w.heap.size + 1 < w2.heap.size := by omega
    have c0 := hr12.cell (i := 0) rfl
    have c4 := hr12.cell (i := 4) rfl
    rw [Hvl.out] at c0
    clear hr1 hb1 hs1 hb2 hs2
    generalize hN1 : w.heap.size + 1 = N1 at *
    clear hN1
    have hz := zeroSv
    go_wp2_with ((with_reducible refine at_store 43 ?_); refine wpList_store_rowV rfl 43 _ _ rfl (N1) (zeroSec.cs) rfl rfl 43 (zeroSec.cs) hr2 (sec_size' _) (sec_same _ _) (sec_all _) ?_)
    all_goals first | (exfalso; omega) | skip
    all_goals
      intro w9 hr9 hg9 hs9
      go_wp2_with fail
      exact bodyPost_ret (results_cell_tmp (fn := Try.f26) rfl _ _ N1 43 _ (0, 0) _ rfl (.int .i64 2) rfl hr9 Try.underlying43 rfl (sec_size' _)) rfl ⟨by rw [Hv.out]; rfl, below_grown hB2 hg9 (by omega) hB2.size⟩
  · have hx : 0 ≤ x ∧ x < d.dur.length := by simpa [Dk.has] using hh
    rw [Hnd.out] at hx
    obtain ⟨i, rfl⟩ := Int.eq_ofNat_of_zero_le hx.1
    have hi : i < Nd := by omega
    have hi' : (i : Int) < (Nd : Int) := by omega
    have hi0 : (0 : Int) ≤ (i : Int) := by omega
    clear hx
    go_enter Try.func26, Try.ntmps26
    go_wp2_with ((with_reducible refine at_box 32 ?_); refine wpList_box_rowV rfl 32 _ rfl (rc vl vw d) rfl ?_)
    intro w1 hr1 hb1 hs1
    go_wp2_with ((with_reducible refine at_alloc 43 ?_); refine wpList_alloc_rowV rfl 43 rfl zeroSec.cs Try.zeroS ?_)
    intro w2 hr2 hb2 hs2
    have hr12 := hr1.below (by omega) hb2
    have hB2 : Below w.heap.size w w2 := hb1.trans (hb2.mono (by omega))
    have hlt1 : w.heap.size < w.heap.size + 1 := by omega
    have hsz2 : w.heap.size + 1 < w2.heap.size := by omega
    have c0 := hr12.cell (i := 0) rfl
    have c4 := hr12.cell (i := 4) rfl
    rw [Hvl.out] at c0
    clear hr1 hb1 hs1 hb2 hs2
    generalize hN1 : w.heap.size + 1 = N1 at *
    clear hN1
    cases hdn : d.down
    · have Hv : Hid (d.read (i : Int) = (Dk.look d.dur d.wait i, 0)) := by show _ = _; simp [Dk.read, hh, hdn]
      rw [hdn] at c4
      have hget : d.dur[i]? = some (d.dur.getD i zeroSec) := by rw [List.getD_eq_getElem?_getD, List.getElem?_eq_getElem (by rw [Hnd.out]; exact hi)]; rfl
      have hl2 := (HR.out.below hB2).last
      rw [Hnd.out, Hvl.out] at hl2
      have hr := sec_range hl2 hget
      have H0 : Hid (d.dur.getD i zeroSec = Dk.look d.dur (d.wait.take 0) i) := by show _ = _; rfl
      generalize d.dur.getD i zeroSec = s at *
      have Hs := Lib.hid (sec_size s)
      clear hget hl2
      go_wp2_with (first
        | ((with_reducible refine at_load 43 ?_); refine wpList_load_mid rfl 43 _ rfl (gl) (i * 256) rfl (s.cs) _ hr Try.underlying43 rfl Hs.out ?_)
        | ((with_reducible refine at_alloc 43 ?_); refine wpList_alloc_rowV rfl 43 rfl zeroSec.cs Try.zeroS ?_))
      intro w3 hr3 hb3 hs3
      have hr13 := hr12.below (by omega) hb3
      have hr23 := hr2.below (by omega) hb3
      have hB3 : Below w.heap.size w w3 := hB2.trans (hb3.mono hB2.size)
      generalize hN2 : w2.heap.size = N2 at *
      go_wp2_with ((with_reducible refine at_store 43 ?_); refine wpList_store_rowV rfl 43 _ _ rfl (N2) (s.cs) rfl rfl 43 (zeroSec.cs) hr3 (sec_size' _) (sec_same _ _) (sec_all _) ?_)
      intro w4 hr4 hg4 hs4
      have hr14 := hr13.keep hg4 (by intro e; injection e with e; omega)
      have hr24 := hr23.keep hg4 (by intro e; injection e with e; omega)
      have hB4 : Below w.heap.size w w4 := below_grown hB3 hg4 (by omega) hB3.size
      rw [H0.out] at hr4
      have K1 := Lib.hid hr14
      have K2 := Lib.hid hr24
      have K4 := Lib.hid hr4
      have KB := Lib.hid hB4
      clear hr14 hr24 hr4 hB4 hB3 hr23 hr13 hb3 hr3 hg4 hr12 hr2 hB2 c0 c4 hr
      generalize hn : d.wait.length = n at *
      have Hn := Lib.hid hn
      clear hn
      go_wp2_with fail
      go_loopw [7] (fun v W => ∃ k : Nat, k ≤ n ∧ v = .int .i64 k ∧ Hid (RowV W w.heap.size 32 (rc vl vw d)) ∧ Hid (RowV W N1 43 zeroSec.cs) ∧ Hid (RowV W N2 43 (Dk.look d.dur (d.wait.take k) i).cs) ∧ Hid (Below w.heap.size w W)) (fun v _ => n - (intOf v).toNat)
      case atStart => exact ⟨0, Nat.zero_le _, rfl, K1, K2, K4, KB⟩
      case round =>
        obtain ⟨k, hkn, rfl, M1, M2, M4, MB⟩ := hrel
        clear K1 K2 K4 KB
        have c1 := M1.out.cell (i := 1) rfl
        rw [Hvw.out] at c1
        by_cases hlt : k < n
        · obtain ⟨c, hc⟩ : ∃ c, d.wait[k]? = some c := ⟨_, List.getElem?_eq_getElem (by rw [Hn.out]; omega)⟩
          have hwk := (HR.out.below MB.out).wait
          rw [Hn.out] at hwk
          obtain ⟨gw, cw', hvw, _, _, _, hgw⟩ := own_form hwk (by omega)
          rw [Hvw.out] at hvw
          injection hvw with h1 h2 h3
          subst h1 h3
          rw [Hvw.out] at hwk
          have hr := chg_at hwk hc
          have hrs := chg_sec hwk hc
          have hlt' : (k : Int) < (n : Int) := by omega
          have hk0 : (0 : Int) ≤ (k : Int) := by omega
          have Hsec := Lib.hid (sec_size c.2)
          have Hlk : Hid (Dk.look d.dur (d.wait.take (k + 1)) i = if c.1 = i then c.2 else Dk.look d.dur (d.wait.take k) i) := by show _ = _; rw [take_succ' hc, look_snoc]
          clear hwk h2 hkn
          by_cases hci : c.1 = i
          · have hd : ((c.1 : Int) == (i : Int)) = true := by rw [beq_iff_eq]; omega
            have m4 := M4.out
            go_wp2_with (first
              | ((with_reducible refine at_load 43 ?_); refine wpList_load_mid rfl 43 _ rfl (gw) (k * 257 + 1) rfl (c.2.cs) _ hrs Try.underlying43 rfl Hsec.out ?_)
              | ((with_reducible refine at_store 43 ?_); refine wpList_store_rowV rfl 43 _ _ rfl (N2) (c.2.cs) rfl rfl 43 ((Dk.look d.dur (d.wait.take k) i).cs) m4 (sec_size' _) (sec_same _ _) (sec_all _) ?_))
            intro w6 hr6 hg6 hs6
            go_wp2_with fail
            go_roundw
            case rel =>
              refine ⟨k + 1, by omega, rfl, Lib.hid (M1.out.keep hg6 (by intro e; injection e with e; omega)), Lib.hid (M2.out.keep hg6 (by intro e; injection e with e; omega)), Lib.hid ?_, Lib.hid (below_grown MB.out hg6 (by omega) MB.out.size)⟩
              rw [Hlk.out, if_pos hci]
              exact hr6
            case measure => show n - (k + 1) < n - k; omega
          · have hd : ((c.1 : Int) == (i : Int)) = false := by rw [beq_eq_false_iff_ne]; omega
            go_wp2_with fail
            go_roundw
            case rel =>
              refine ⟨k + 1, by omega, rfl, M1, M2, Lib.hid ?_, MB⟩
              rw [Hlk.out, if_neg hci]
              exact M4.out
            case measure => show n - (k + 1) < n - k; omega
        · obtain rfl : k = n := by omega
          have et : d.wait.take k = d.wait := List.take_of_length_le (by rw [Hn.out]; exact Nat.le_refl _)
          have m4 := M4.out
          have m2 := M2.out
          rw [et] at m4
          go_wp2_with (first
            | ((with_reducible refine at_load 43 ?_); refine wpList_load_row rfl 43 _ rfl (N2) rfl 43 ((Dk.look d.dur d.wait i).cs).toArray (0, 0) _ m4 Try.underlying43 rfl (sec_size' _) ?_)
            | ((with_reducible refine at_store 43 ?_); refine wpList_store_rowV rfl 43 _ _ rfl (N1) ((Dk.look d.dur d.wait i).cs) rfl rfl 43 (zeroSec.cs) m2 (sec_size' _) (sec_same _ _) (sec_all _) ?_))
          intro w9 hr9 hg9 hs9
          go_wp2_with fail
          exact bodyPost_ret (results_cell_tmp (fn := Try.f26) rfl _ _ N1 43 _ (0, 0) _ rfl (.int .i64 0) rfl hr9 Try.underlying43 rfl (sec_size' _)) rfl ⟨by rw [Hv.out]; rfl, below_grown MB.out hg9 (by omega) MB.out.size⟩
    · have Hv : Hid (d.read (i : Int) = (zeroSec, 4)) := by show _ = _; simp [Dk.read, hh, hdn]
      rw [hdn] at c4
      have hz := zeroSv
      go_wp2_with ((with_reducible refine at_store 43 ?_); refine wpList_store_rowV rfl 43 _ _ rfl (N1) (zeroSec.cs) rfl rfl 43 (zeroSec.cs) hr2 (sec_size' _) (sec_same _ _) (sec_all _) ?_)
      intro w9 hr9 hg9 hs9
      go_wp2_with fail
      exact bodyPost_ret (results_cell_tmp (fn := Try.f26) rfl _ _ N1 43 _ (0, 0) _ rfl (.int .i64 4) rfl hr9 Try.underlying43 rfl (sec_size' _)) rfl ⟨by rw [Hv.out]; rfl, below_grown hB2 hg9 (by omega) hB2.size⟩
end Go.Proofs.Ytamjkmelfpdhiaa
