/-
  Layer 6: the contract of the reference's settle.
-/
import Derived.Test.YtamjkmelfpdhiaaDiskRs
namespace Go.Proofs.Ytamjkmelfpdhiaa
open Go.RowKit Go.Maps
set_option linter.unusedVariables false

set_option maxRecDepth 100000 in
set_option maxHeartbeats 8000000 in
theorem rsettle_any (w : World) (base : Nat) (vl vw : Value) (d : Dk) (A : Option Addr) (c : Nat) (keep : List Bool) (all : Bool) (hk : d.Ok) (hl : LiesV w w.heap.size A (keep.map Value.bool)) (hm : keep.length ≤ 1000000) (h : Ref w base vl vw d) :
    Calls Try.prog 38 #[.agg (rc vl vw d).toArray, .slice A keep.length c, .bool all] w fun e w' => ∃ vl', e = .returned (.tuple #[.agg (rc vl' (.slice none 0 0) { d with dur := Dk.settle d.dur (sel all keep d.wait d.wait.length), wait := [] }).toArray, .int .i64 ((sel all keep d.wait d.wait.length).length : Int)]) ∧
      w'.ownsRow w.heap.size 43 256 vl' d.dur.length (secs (Dk.settle d.dur (sel all keep d.wait d.wait.length))) ∧ Below w.heap.size w w' := by
  have Ha := fun (a b : Int) (c : Bool) => Lib.hid (rc_all (vl := vl) (vw := vw) (a := a) (b := b) (c := c) (own_one h.last) (own_one h.wait))
  obtain ⟨gl, cl, hvl, _, _, _, hgl⟩ := own_form h.last hk.pos
  obtain ⟨Aw, cw, hvw, _, _⟩ := own_slice h.wait
  have Hvl := Lib.hid hvl
  have Hvw := Lib.hid hvw
  clear hvl hvw
  have Hk := Lib.hid hk
  have HR := Lib.hid h
  have Hl := Lib.hid hl
  have hpn := hk.wait
  have hpd := hk.dur
  have hpp := hk.pos
  have Hrc : Hid (∀ vl' : Value, rc vl' (.slice none 0 0) { d with dur := Dk.settle d.dur (sel all keep d.wait d.wait.length), wait := [] } = [vl', .slice none 0 0, .int .i64 (d.steps : Int), .int .i64 d.fuseI, .bool d.down]) := fun _ => rfl
  rw [show rc vl vw d = [vl, vw, .int .i64 (d.steps : Int), .int .i64 d.fuseI, .bool d.down] from rfl]
  generalize (d.steps : Int) = st at *
  generalize d.fuseI = fi at *
  generalize d.down = dn at *
  clear h hk hl
  have Hm := Lib.hid hm
  clear hm
  go_enter Try.func38, Try.ntmps38
  go_wp2_with ((with_reducible refine at_box 32 ?_); refine wpList_box_rowV rfl 32 _ rfl ([vl, vw, .int .i64 st, .int .i64 fi, .bool dn]) rfl ?_)
  intro w1 hr1 hb1 hs1
  go_wp2_with ((with_reducible refine at_alloc 32 ?_); refine wpList_alloc_rowV rfl 32 rfl rc0 Try.zeroR ?_)
  intro w2 hr2 hb2 hs2
  have hr12 := hr1.below (by omega) hb2
  go_wp2_with (first
    | ((with_reducible refine at_load 32 ?_); refine wpList_load_row rfl 32 _ rfl (w.heap.size) rfl 32 ([vl, vw, .int .i64 st, .int .i64 fi, .bool dn]).toArray (0, 0) _ hr12 Try.underlying32 rfl (rc_size _ rfl) ?_)
    | ((with_reducible refine at_alloc 32 ?_); refine wpList_alloc_rowV rfl 32 rfl rc0 Try.zeroR ?_))
  intro w3 hr3 hb3 hs3
  have hr13 := hr12.below (by omega) hb3
  have hr23 := hr2.below (by omega) hb3
  have hB3 : Below w.heap.size w w3 := hb1.trans ((hb2.mono (by omega)).trans (hb3.mono (by omega)))
  have hlt1 : w.heap.size < w.heap.size + 1 := by omega
  have hlt2 : w.heap.size + 1 < w.heap.size + 1 + 1 := by omega
  have hsz : w.heap.size + 1 + 1 < w3.heap.size := by omega
  clear hr1 hb1 hs1 hr2 hb2 hs2 hb3 hs3 hr12
  generalize hN2 : w.heap.size + 1 + 1 = N2 at *
  generalize hN1 : w.heap.size + 1 = N1 at *
  generalize hN : w.heap.size = N at *
  clear hN2 hN1
  go_wp2_with ((with_reducible refine at_store 32 ?_); refine wpList_store_rowV rfl 32 _ _ rfl (N2) ([vl, vw, .int .i64 st, .int .i64 fi, .bool dn]) rfl rfl 32 (rc0) hr3 (rc_size _ rfl) rfl (Ha _ _ _).out ?_)
  intro w4 hr4 hg4 hs4
  have hr14 := hr13.keep hg4 (fun e => by injection e with e; omega)
  have hr24 := hr23.keep hg4 (fun e => by injection e with e; omega)
  have hB4 : Below N w w4 := below_grown hB3 hg4 (by omega) (by omega)
  have hs4' : N2 < w4.heap.size := by omega
  clear hr3 hr13 hr23 hB3 hg4 hs4 hsz
  have c0 := hr14.cell (i := 0) rfl
  have f0 := hr4.free 0
  have g0 := hr4.cell (i := 0) rfl
  have hr4n := hr4.setCell 0 (.slice none 0 0)
  have hB4n : Below N w (w4.setCell ⟨N2, 0, none⟩ (.slice none 0 0)) := hB4.setCell (by show N ≤ N2; omega) _
  have hr14n := hr14.setCell_other (p := ⟨N2, 0, none⟩) (by show N ≠ N2; omega) (.slice none 0 0)
  have hr24n := hr24.setCell_other (p := ⟨N2, 0, none⟩) (by show N1 ≠ N2; omega) (.slice none 0 0)
  have hsz4n : N2 + 1 ≤ (w4.setCell ⟨N2, 0, none⟩ (.slice none 0 0)).heap.size := by simp; omega
  subst hN
  have hlast := (HR.out.below hB4n).last
  rw [Hvl.out] at hlast c0
  have Hlast := Lib.hid hlast
  have HSL := Lib.hid (secs_one d.dur)
  have HSN := Lib.hid (secs_length d.dur)
  clear hlast
  generalize hnd : d.dur.length = Nd at *
  obtain ⟨i0, hi, hz0, hz1, hz2⟩ := info_parts Try.infoS
  go_wp2_with (at_builtin; refine wpList_append_own _ rfl _ _ 29 rfl (N2 + 1) 43 i0 _ 256 _ Try.underlying29 hi hz0 hz1 hz2 (by rw [show zeroSec.val.cells = zeroSec.cs.toArray from rfl, List.size_toArray, Sec.cs_length]) (by decide) _ 0 [] rfl (World.ownsRow_nil _ _ _ _) ⟨gl, 0, none⟩ Nd cl (secs d.dur) rfl HSN.out (Hlast.out.cells (g := gl) rfl) HSL.out (by unfold maxLen; omega) (by omega) hsz4n ?_)
  intro vX w5 hown5 hgr5 hnil
  obtain ⟨gr, cr, rfl, hcr, _, hgrb, _⟩ := own_form hown5 hpp
  have hr5 := hr4n.keep hgr5 (by intro e; cases e)
  have hr15 := hr14n.keep hgr5 (by intro e; cases e)
  have hr25 := hr24n.keep hgr5 (by intro e; cases e)
  have hB5 : Below w.heap.size w w5 := ⟨hgr5.os.trans hB4n.os, hgr5.tape.trans hB4n.tape, hgr5.output.trans hB4n.output, Nat.le_trans hB4n.size hgr5.size, fun k hk => (hgr5.block k (by omega) (by intro e; cases e)).trans (hB4n.block k hk)⟩
  have f0' := hr5.free 0
  have g0' := hr5.cell (i := 0) rfl
  have f1' := hr5.free 1
  have g1' := hr5.cell (i := 1) rfl
  have hr6 := (hr5.setCell 0 (.slice (some ⟨gr, 0, none⟩) Nd cr)).setCell 1 (.slice none 0 0)
  have hr16 := (hr15.setCell_other (p := ⟨N2, 0, none⟩) (by show w.heap.size ≠ N2; omega) (.slice (some ⟨gr, 0, none⟩) Nd cr)).setCell_other (p := ⟨N2, 1, none⟩) (by show w.heap.size ≠ N2; omega) (.slice none 0 0)
  have hr26 := (hr25.setCell_other (p := ⟨N2, 0, none⟩) (by show N1 ≠ N2; omega) (.slice (some ⟨gr, 0, none⟩) Nd cr)).setCell_other (p := ⟨N2, 1, none⟩) (by show N1 ≠ N2; omega) (.slice none 0 0)
  have hgg := gset (i := 1) (gset (i := 0) (World.grownBy.refl w5 (some N2)) (.slice (some ⟨gr, 0, none⟩) Nd cr)) (.slice none 0 0)
  have hown6 := hown5.kept hgg (.inr (by intro e; have := (hown5.lt _ e).1; omega))
  have hB6 := below_grown hB5 hgg (by omega) hB5.size
  clear hr5 hr15 hr25 hB5 hgg hown5 hgr5 hnil hr4n hr14n hr24n hB4n hsz4n hr4 hr14 hr24 hB4 f0 g0 c0 Hlast
  go_wp2_with fail
  clear f0' g0' f1' g1'
  generalize (w5.setCell ⟨N2, 0, none⟩ (.slice (some ⟨gr, 0, none⟩) Nd cr)).setCell ⟨N2, 1, none⟩ (.slice none 0 0) = w6 at *
  have H6 := Lib.hid hr6
  have H16 := Lib.hid hr16
  have H26 := Lib.hid hr26
  have Ho6 := Lib.hid hown6
  have HB6 := Lib.hid hB6
  clear hr6 hr16 hr26 hown6 hB6
  generalize hn : d.wait.length = n at *
  have Hn := Lib.hid hn
  have Hnd := Lib.hid hnd
  clear hn hnd
  go_loopw [9, 10] (fun x v W => ∃ k : Nat, k ≤ n ∧ v = .int .i64 k ∧ x = .int .i64 ((sel all keep d.wait k).length : Int) ∧ Hid (RowV W w.heap.size 32 [vl, vw, .int .i64 st, .int .i64 fi, .bool dn]) ∧ Hid (RowV W N1 32 rc0) ∧ Hid (RowV W N2 32 [.slice (some ⟨gr, 0, none⟩) Nd cr, .slice none 0 0, .int .i64 st, .int .i64 fi, .bool dn]) ∧ Hid (W.ownsRow (N2 + 1) 43 256 (.slice (some ⟨gr, 0, none⟩) Nd cr) Nd (secs (Dk.settle d.dur (sel all keep d.wait k)))) ∧ Hid (Below w.heap.size w W)) (fun _ v _ => n - (intOf v).toNat)
  case atStart => exact ⟨0, Nat.zero_le _, rfl, by rw [sel_zero]; rfl, H16, H26, H6, by rw [sel_zero]; exact Ho6, HB6⟩
  case round =>
    obtain ⟨k, hkn, rfl, rfl, K16, K26, K6, Ko, KB⟩ := hrel
    clear H6 H16 H26 Ho6 HB6
    have hcnt := sel_le all keep d.wait k
    generalize hq : (sel all keep d.wait k).length = q at *
    have c1 := K16.out.cell (i := 1) rfl
    rw [Hvw.out] at c1
    by_cases hlt : k < n
    · obtain ⟨c', hc⟩ : ∃ c, d.wait[k]? = some c := ⟨_, List.getElem?_eq_getElem (by rw [Hn.out]; omega)⟩
      have hwk := (HR.out.below KB.out).wait
      rw [Hn.out] at hwk
      obtain ⟨gw, cw', hvw, _, _, _, hgw⟩ := own_form hwk (by omega)
      rw [Hvw.out] at hvw
      injection hvw with h1 h2 h3
      subst h1 h3
      rw [Hvw.out] at hwk
      have hr := chg_at hwk hc
      have hrs : wr.drew.rangeAt gw (k * 257 + 1) c'.2.cs := chg_sec hwk.drew hc
      have n2c := K6.out.cell (i := 0) rfl
      have hlt' : (k : Int) < (n : Int) := by omega
      have hk0 : (0 : Int) ≤ (k : Int) := by omega
      have hci : c'.1 < Nd := by have := Hk.out.at_ c' (List.mem_of_getElem? hc); rw [Hnd.out] at this; exact this
      have hci' : (c'.1 : Int) < (Nd : Int) := by omega
      have hci0 : (0 : Int) ≤ (c'.1 : Int) := by omega
      have Hsec := Lib.hid (sec_size c'.2)
      clear hwk h2 hkn
      go_wp2_with fail
      refine (rkeeps_any wr A c keep all k ((Hl.out.below KB.out).le KB.out.size) Hm.out).mono ?_
      rintro e w2 ⟨rfl, rfl⟩
      have Hst := Lib.hid (sel_step (all := all) (keep := keep) hc)
      generalize (all || keep.getD k false) = b at *
      have hle : c'.1 * 256 + 256 ≤ Nd * 256 := by have := Nat.mul_le_mul_right 256 (show c'.1 + 1 ≤ Nd from hci); omega
      obtain ⟨hP1, hP2⟩ := own_put c'.2.cs (c'.1 * 256) w2.drew _ Ko.out.drew (by rw [Sec.cs_length]; exact hle)
      rw [secs_put (by rw [settle_length, Hnd.out]; exact hci), ← settle_snoc] at hP1
      have hth : w2.drew.there gr (c'.1 * 256) c'.2.cs.toArray.size := own_there Ko.out.drew _ _ (by rw [List.size_toArray, Sec.cs_length]; exact hle)
      have HP1 := Lib.hid hP1
      have HP2 := Lib.hid hP2
      have Hgr : Hid (N2 + 1 ≤ gr) := hgrb
      clear hP1 hP2 hle hgrb
      go_wp2_with fail
      · have hbt : b = true := by assumption
        subst hbt
        refine wp_region_still_tail 15 (by kernel_rfl) (by kernel_rfl) ?_
        simp only [List.take_succ_cons, List.take_zero, List.drop_succ_cons, List.drop_zero]
        iterate 13 still_step
        refine wpStill_exec (.agg c'.2.cs.toArray) rfl ?_ ?_
        · refine exec_load_mid 43 (.tmp 43) ?_ gw (k * 257 + 1) ?_ c'.2.cs _ hrs Try.underlying43 rfl Hsec.out <;> rfl
        try simp only [Act.put, List.setIfInBounds_toArray, List.set_cons_zero, List.set_cons_succ]
        still_step
        refine wpStill_nil ?_
        change wpList _ _ _ _ _ w2.drew
        go_wp2_with ((with_reducible refine at_store 43 ?_); refine wpList_store_mid rfl 43 _ _ rfl gr (c'.1 * 256) c'.2.cs.toArray rfl rfl hth (sec_size' _) (sec_all _) ?_)
        go_roundw
        case rel =>
          have hg1 := Hgr.out
          refine ⟨k + 1, by omega, rfl, ?_, Lib.hid (K16.out.drew.keep HP2.out (by intro e; injection e with e; omega)), Lib.hid (K26.out.drew.keep HP2.out (by intro e; injection e with e; omega)), Lib.hid (K6.out.drew.keep HP2.out (by intro e; injection e with e; omega)), Lib.hid ?_, Lib.hid (below_grown KB.out.drew HP2.out (by omega) KB.out.size)⟩
          · rw [Hst.out, List.length_append, hq]; rfl
          · rw [Hst.out, if_pos rfl]; exact HP1.out
        case measure => show n - (k + 1) < n - k; omega
      · have hbt : b = false := by assumption
        subst hbt
        go_roundw
        case rel =>
          refine ⟨k + 1, by omega, rfl, ?_, K16, K26, K6, Lib.hid ?_, KB⟩
          · rw [Hst.out, List.length_append, hq]; rfl
          · rw [Hst.out, if_neg (by decide), List.append_nil]; exact Ko.out
        case measure => show n - (k + 1) < n - k; omega
    · obtain rfl : k = n := by omega
      have k6 := K6.out
      have k26 := K26.out
      go_wp2_with (first
        | ((with_reducible refine at_load 32 ?_); refine wpList_load_row rfl 32 _ rfl N2 rfl 32 ([.slice (some ⟨gr, 0, none⟩) Nd cr, .slice none 0 0, .int .i64 st, .int .i64 fi, .bool dn] : List Value).toArray (0, 0) _ k6 Try.underlying32 rfl (rc_size _ rfl) ?_)
        | ((with_reducible refine at_store 32 ?_); refine wpList_store_rowV rfl 32 _ _ rfl N1 [.slice (some ⟨gr, 0, none⟩) Nd cr, .slice none 0 0, .int .i64 st, .int .i64 fi, .bool dn] rfl rfl 32 rc0 k26 (rc_size _ rfl) rfl (rc_all rfl rfl) ?_))
      intro w7 hr7 hg7 hs7
      go_wp2_with fail
      refine bodyPost_ret (results_cell_tmp (fn := Try.f38) rfl _ _ N1 32 _ (0, 0) _ rfl (.int .i64 (q : Int)) rfl hr7 Try.underlying32 rfl (rc_size _ rfl)) rfl ⟨.slice (some ⟨gr, 0, none⟩) Nd cr, ?_, ?_, below_grown KB.out hg7 (by omega) KB.out.size⟩
      · rw [Hn.out, Hrc.out, hq]
      · rw [Hn.out, Hnd.out]
        exact own_rebase (Ko.out.kept hg7 (.inr (by intro e; have := (Ko.out.lt _ e).1; omega))) fun j hj => by have := (Ko.out.lt _ hj).1; omega
end Go.Proofs.Ytamjkmelfpdhiaa
