/-
  The contract of (*digest.Hash).Add.
-/
import Derived.Test.YtmcbpifkclhfiaaDoorPkHashN
import Derived.Test.YtmcbpifkclhfiaaDoorPkHashM
import Derived.Deep.RegionHeld3
import Derived.Deep.MidRow
import Derived.Laws.Cover3
namespace Go.Proofs.YtmcbpifkclhfiaaDoor
open Go.RowKit
set_option linter.unusedVariables false

theorem Tryd.sizeB : (Tryd.prog.info? 64).map (·.size) = some 64 := by kernel_rfl

/-- copy of bytes into a hash's block. -/
theorem run_copy_hash {w : World} {g : Nat} {s : St} {blk ys : List UInt8} {N : Nat} (h : RowV w g 66 (hcells s blk N)) (hb : blk.length = 64) (r : Nat) (hr : r < 64) {B : Nat} {A : Option Addr} {m c : Nat} (hl : Lies w B A ys) (hm : m = ys.length) :
    ∃ w', (Builtin.copy_ #[22, 22] 3 #[.slice (some ⟨g, 8 + r, none⟩) (64 - r) (64 - r), .slice A m c]).run Tryd.prog w = .ok (goInt (ys.take (64 - r)).length) w' ∧ RowV w' g 66 (hcells s (over blk r (ys.take (64 - r))) N) ∧ w.grownBy w' (some g) := by
  have hn : (cells (ys.take (64 - r))).length = Nat.min m (64 - r) := by
    rw [cells_length, List.length_take, hm, Nat.min_comm]
  rcases A with _ | a
  · have hy : ys = [] := by
      rcases ys with _ | ⟨y, ys⟩
      · rfl
      · obtain ⟨_, _, e, _⟩ := hl (by simp)
        cases e
    subst hy
    simp only [List.length_nil] at hm
    subst hm
    exact ⟨w, by simpa using run_copy_none (P := Tryd.prog) w 22 22 3 5 (some ⟨g, 8 + r, none⟩) none (64 - r) (64 - r) 0 c Tryd.underlying22 Tryd.size5 (Nat.zero_min _), by simpa [over_nil] using h, World.grownBy.refl _ _⟩
  · have hle : (ys.take (64 - r)).length ≤ 64 - r := List.length_take_le _ _
    have hr' := run_copy_row (P := Tryd.prog) w 22 22 3 5 g (8 + r) (64 - r) (64 - r) a m c _ 66 (cells (ys.take (64 - r))) Tryd.underlying22 Tryd.size5 h hn ((hl.take (64 - r)).cells rfl) (by
      simp only [List.size_toArray, cells_length, hcells_length hb]
      omega) (cells_one _)
    rw [cells_length] at hr'
    refine ⟨w.setRow g (hcells s (over blk r (ys.take (64 - r))) N).toArray, ?_, h.put _, ⟨rfl, rfl, rfl, by simp, fun j _ hk => setRow_other w g j _ (fun e => hk (by simp [e]))⟩⟩
    rw [hr', ← hcells_over hb (by omega)]

set_option maxRecDepth 100000 in
set_option maxHeartbeats 2000000 in
theorem add_any (g : Nat) (m xs : List UInt8) (A : Option Addr) (n c : Nat) (w : World) (B : Nat) (hg0 : g ≠ 0) (hT : Tab w) (h : HashAt w g m) (hB : B ≤ w.heap.size) (hl : Lies w B A xs) (ha : Aside g A) (hn : n = xs.length) (hc : n ≤ c) (hm : c ≤ maxLen) (hbd : m.length + n ≤ 1000000000) :
    Calls Tryd.prog 31 #[.pointer (some ⟨g, 0, none⟩), .slice A n c] w fun e w' => e = .returned (.tuple #[]) ∧ HashAt w' g (m ++ xs) ∧ w.grownBy w' (some g) := by
  have Hn := Lib.hid hn
  have hm' : c ≤ 9223372036854775807 := by unfold maxLen at hm; exact hm
  clear hn hm
  have hgr : w.grownBy w (some g) := World.grownBy.refl _ _
  go_enter Tryd.func31, Tryd.ntmps31
  go_wp2_with fail
  go_loopw [1] (fun v W => ∃ (k : Nat) (A' : Option Addr) (n' c' : Nat), k ≤ n ∧ v = .slice A' n' c' ∧ n' + k = n ∧ n' ≤ c' ∧ c' ≤ 9223372036854775807 ∧ Hid (Lies W B A' (xs.drop k)) ∧ Hid (Aside g A') ∧ HashAt W g (m ++ xs.take k) ∧ Hid (w.grownBy W (some g))) (fun v _ => match v with | .slice _ l _ => l | _ => 0)
  case atStart => exact ⟨0, A, n, c, Nat.zero_le _, rfl, by omega, hc, hm', Lib.hid hl, Lib.hid ha, by rw [List.take_zero, List.append_nil]; exact h, Lib.hid hgr⟩
  case round =>
    obtain ⟨k, A', n', c', hk, hv, hnk, hc', hm1, HL, HA, hH, Hgr⟩ := hrel
    subst hv
    have HT := Lib.hid (hT.grown Hgr.out hg0)
    have HB : Hid (B ≤ wr.heap.size) := by show _ ≤ _; have := Hgr.out.size; omega
    clear hT h hl ha hgr hB hc hm'
    have Hxl : Hid ((xs.drop k).length = n') := by show _ = _; rw [List.length_drop, ← Hn.out]; omega
    have Hml : Hid ((m ++ xs.take k).length + n' = m.length + n) := by show _ = _; rw [List.length_append, List.length_take, ← Hn.out]; omega
    by_cases hlt : 0 < n'
    · obtain ⟨blk, hb64, htk, hrow⟩ := hH
      generalize hm2 : m ++ xs.take k = m2 at *
      generalize hx2 : xs.drop k = x2 at *
      have Hb64 := Lib.hid hb64
      have Htk := Lib.hid htk
      change RowV wr g _ (hcells (foldK shaH m2 (m2.length / 64)) blk m2.length) at hrow
      have hc72 := hrow.cell (hcells_size hb64)
      have hM : m2.length ≤ 1000000000 := by have := Hml.out; omega
      obtain ⟨r, hr⟩ : ∃ r, m2.length % 64 = r := ⟨_, rfl⟩
      have hr64 : r < 64 := by omega
      obtain ⟨M, hMM⟩ : ∃ M, m2.length = M := ⟨_, rfl⟩
      have hri : (M : Int) % 64 = (r : Int) := by omega
      have hrt : (M : Int).tmod 64 = (r : Int) := by rw [Int.tmod_eq_emod_of_nonneg (by omega)]; exact hri
      have Hr := Lib.hid hr
      have HM := Lib.hid hMM
      obtain ⟨w2, hcopy, hrow2, hg2⟩ := run_copy_hash (c := c') hrow.drew hb64 r hr64 HL.out.drew Hxl.out.symm
      obtain ⟨q, hq⟩ : ∃ q, (x2.take (64 - r)).length = q := ⟨_, rfl⟩
      have hq1 : 0 < q ∧ q ≤ n' ∧ r + q ≤ 64 ∧ (q < n' → r + q = 64) := by rw [List.length_take, Hxl.out] at hq; omega
      rw [hq] at hcopy
      have Hq := Lib.hid hq
      generalize hst : foldK shaH m2 (m2.length / 64) = st at *
      have Hst := Lib.hid hst
      have hsl : ∀ W, (Instr.sliceAt 64 (.pointer (some ⟨g, 8, none⟩)) (some (.int .u64 (r : Int))) none none).run Tryd.prog W = .ok (.slice (some ⟨g, 8 + r, none⟩) (64 - r) (64 - r)) W := fun W => run_slice_arr_from Tryd.underlying64 Tryd.size5 g 8 .u64 _ r rfl hr64
      rw [hMM] at hc72 hrow2 hM
      have Hb2 : Hid ((over blk r (x2.take (64 - r))).length = 64) := by show _ = _; rw [over_length (by rw [Hq.out, Hb64.out]; omega), Hb64.out]
      have hcs := hrow2.cell (hcells_size Hb2.out)
      have hfz := hrow2.frozen 72
      have HM2 := Lib.hid hm2
      have HX2 := Lib.hid hx2
      have hrow3 := hrow2.setCell 72 (.int .u64 ((M + q : Nat) : Int))
      rw [hcells_setSize Hb2.out] at hrow3
      have hg3 := grown_setCellM hg2 (p := ⟨g, 72, none⟩) rfl (.int .u64 ((M + q : Nat) : Int))
      have Hrow3 := Lib.hid hrow3
      have Hg3 := Lib.hid hg3
      obtain ⟨hq0, hqn, hq64, hqf⟩ := hq1
      have Hqf := Lib.hid hqf
      clear hqf hm2 hx2 hst hq hr hMM hb64 htk hrow hrow3 hg3
      have hqc : (q : Int) ≤ (c' : Int) := by omega
      have hqn' : (q : Int) ≤ (n' : Int) := by omega
      obtain ⟨A2, hA2⟩ : ∃ A2, (if c' = q then A' else A'.map (·.add q)) = A2 := ⟨_, rfl⟩
      have hsb1 := fun W => (run_slice_from (P := Tryd.prog) Tryd.underlying22 Tryd.size5 A' A2 n' c' q .i64 hqn hA2 W).1
      have hsb2 := fun W => (run_slice_from (P := Tryd.prog) Tryd.underlying22 Tryd.size5 A' A2 n' c' q .i64 hqn hA2 W).2
      have HL2 := Lib.hid (HL.out.drop (k := q) (c := c') (by rw [Hxl.out]; exact hc'))
      rw [hA2] at HL2
      have HA2 := Lib.hid (HA.out.ite q c')
      rw [hA2] at HA2
      clear hA2
      have hrow3 : RowV (w2.setCell ⟨g, 72, none⟩ (.int .u64 ((M : Int) + (q : Int)))) g 66 (hcells st (over blk r (x2.take (64 - r))) (M + q)) := Hrow3.out
      have hg3 : wr.drew.grownBy (w2.setCell ⟨g, 72, none⟩ (.int .u64 ((M : Int) + (q : Int)))) (some g) := Hg3.out
      clear Hrow3 Hg3
      have Htq : Hid (x2.take (64 - r) = x2.take q) := by
        show _ = _
        have h1 := Hq.out
        rw [List.length_take] at h1
        rw [List.take_eq_take_iff]
        omega
      rw [Htq.out] at hrow3 hrow2 Hb2
      have Hblk := Lib.hid (Eq.refl (over blk r (x2.take q)))
      have HL3 : Hid (Lies (w2.setCell ⟨g, 72, none⟩ (.int .u64 ((M : Int) + (q : Int)))) B A2 (x2.drop q)) := HL2.out.drew.aside HA2.out hg3 HB.out
      have HT3 : Hid (Tab (w2.setCell ⟨g, 72, none⟩ (.int .u64 ((M : Int) + (q : Int))))) := HT.out.drew.grown hg3 hg0
      have Hgr3 : Hid (w.grownBy (w2.setCell ⟨g, 72, none⟩ (.int .u64 ((M : Int) + (q : Int)))) (some g)) := grown_trans (grown_drew Hgr.out) hg3
      have Hx3 : Hid (x2.drop q = xs.drop (k + q)) := by show _ = _; rw [← HX2.out, List.drop_drop]
      have Hm3 : Hid (m2 ++ x2.take q = m ++ xs.take (k + q)) := by show _ = _; rw [← HX2.out, ← HM2.out, List.append_assoc, List.take_add]
      rw [Hx3.out] at HL3
      have Hlen : Hid ((m2 ++ x2.take q).length = M + q) := by show _ = _; rw [List.length_append, List.length_take, Hxl.out, HM.out]; omega
      have HtL : Hid ((x2.take q).length = q) := by show _ = _; rw [List.length_take, Hxl.out]; omega
      by_cases hfull : r + q = 64
      · have hd : (((M : Int) + (q : Int)) % 64 == 0) = true := by rw [beq_iff_eq]; omega
        obtain ⟨f1, f2, f3⟩ := rest_full (t := x2.take q) Hb64.out Htk.out (by rw [HtL.out, Hr.out]; exact hfull)
        rw [Hr.out] at f1 f2 f3
        rw [Hst.out] at f3
        have F2 := Lib.hid f2
        have F3 := Lib.hid f3
        clear f1 f2 f3
        generalize over blk r (x2.take q) = blk2 at *
        go_wp2_with fail
        refine wp_region_still_tail 10 (by kernel_rfl) (by kernel_rfl) ?_
        simp only [List.take_succ_cons, List.take_zero, List.drop_succ_cons, List.drop_zero]
        iterate 10 still_step
        refine wpStill_nil ?_
        change wpList _ _ _ _ _ wr.drew
        go_wp2_with fail
        have hg3lt := hrow3.lt
        have hcs := 0
        clear hcs hcopy hrow2 hg2 hfz
        generalize w2.setCell ⟨g, 72, none⟩ (.int .u64 ((M : Int) + (q : Int))) = w3 at *
        have hR : w3.drew.rangeAt g 8 (cells blk2) := fun j v hj => hrow3.cell (hcells_byte hj)
        have Hsz : Hid ((Tryd.prog.info? 64).map (·.size) = some (cells blk2).length) := by show _ = _; rw [Tryd.sizeB, cells_length, Hb2.out]
        have Hew : Hid ((ext (words16 blk2) 48).length = 64) := by show _ = _; rw [ext_length, words16_length]
        refine wp_region_held_drew (S := fun W => W.rangeAt g 8 (cells blk2)) (by kernel_rfl) hR (fun hHeld => ?_)
        refine wpAnyH_take (i := 0) (oi := ⟨_, _, _, _, _, _⟩) (v := ?_) rfl (by kernel_rfl) (by kernel_rfl) (by kernel_rfl) (fun _ _ _ h => h) (Or.inl ⟨by rfl, ?_⟩) (by assumption) ?_
        rotate_left
        · intro W hSW; (try dsimp only at hSW); go_simp; try with_reducible rfl
        try simp only [Act.put, List.setIfInBounds_toArray, List.set_cons_zero, List.set_cons_succ]
        refine wpAnyH_take (i := 1) (oi := ⟨_, _, _, _, _, _⟩) (v := ?_) rfl (by kernel_rfl) (by kernel_rfl) (by kernel_rfl) (fun _ _ _ h => h) (Or.inl ⟨by rfl, ?_⟩) (by assumption) ?_
        rotate_left
        · intro W hSW; (try dsimp only at hSW); go_simp; try with_reducible rfl
        try simp only [Act.put, List.setIfInBounds_toArray, List.set_cons_zero, List.set_cons_succ]
        refine wpAnyH_take (i := 2) (oi := ⟨_, _, _, _, _, _⟩) (v := ?_) rfl (by kernel_rfl) (by kernel_rfl) (by kernel_rfl) (fun _ _ _ h => h) (Or.inl ⟨by rfl, ?_⟩) (by assumption) ?_
        rotate_left
        · intro W hSW; (try dsimp only at hSW); go_simp; try with_reducible rfl
        try simp only [Act.put, List.setIfInBounds_toArray, List.set_cons_zero, List.set_cons_succ]
        refine wpAnyH_take (i := 3) (oi := ⟨_, _, _, _, _, _⟩) (v := ?_) rfl (by kernel_rfl) (by kernel_rfl) (by kernel_rfl) (fun _ _ _ h => h) (Or.inl ⟨by rfl, ?_⟩) (by assumption) ?_
        rotate_left
        · intro W hSW; (try dsimp only at hSW); go_simp; try with_reducible rfl
        try simp only [Act.put, List.setIfInBounds_toArray, List.set_cons_zero, List.set_cons_succ]
        refine wpAnyH_take (i := 4) (oi := ⟨_, _, _, _, _, _⟩) (v := ?_) rfl (by kernel_rfl) (by kernel_rfl) (by kernel_rfl) (fun _ _ _ h => h) (Or.inl ⟨by rfl, ?_⟩) (by assumption) ?_
        rotate_left
        · intro W hSW; (try dsimp only at hSW); go_simp; try with_reducible rfl
        try simp only [Act.put, List.setIfInBounds_toArray, List.set_cons_zero, List.set_cons_succ]
        refine wpAnyH_take (i := 5) (oi := ⟨_, _, _, _, _, _⟩) (v := ?_) rfl (by kernel_rfl) (by kernel_rfl) (by kernel_rfl) (fun _ _ _ h => h) (Or.inl ⟨by rfl, ?_⟩) (by assumption) ?_
        rotate_left
        · intro W hSW; (try dsimp only at hSW); go_simp; try with_reducible rfl
        try simp only [Act.put, List.setIfInBounds_toArray, List.set_cons_zero, List.set_cons_succ]
        refine wpAnyH_take (i := 6) (oi := ⟨_, _, _, _, _, _⟩) (v := ?_) rfl (by kernel_rfl) (by kernel_rfl) (by kernel_rfl) (fun _ _ _ h => h) (Or.inl ⟨by rfl, ?_⟩) (by assumption) ?_
        rotate_left
        · intro W hSW; refine exec_load_mid 64 (.tmp 42) ?_ g 8 ?_ (cells blk2) _ hSW Tryd.underlying64 rfl Hsz.out <;> rfl
        try simp only [Act.put, List.setIfInBounds_toArray, List.set_cons_zero, List.set_cons_succ]
        refine wpAnyH_ready (rs := [7]) (by kernel_rfl) (by simp) ?_
        refine AllReadyH.cons (o := ⟨_, _, _, _, _, _⟩) rfl (fun K hK => ?_) AllReadyH.nil
        go_simp
        refine (blockWords_any blk2 Hb2.out _).mono ?_
        rintro e w4 ⟨rfl, hb4⟩
        try simp only []
        refine hK.out _ _ ?_ (fun hHeld => ?_)
        · exact fun j v hj => (hb4.cell (p := ⟨g, 8 + j, none⟩) hg3lt).trans (hR j v hj)
        clear hK K
        try simp only [Act.put, List.setIfInBounds_toArray, List.set_cons_zero, List.set_cons_succ]
        have hrow4 := hrow3.drew.below hg3lt hb4
        have hT4 := HT3.out.drew.below hb4
        have hg4 : w3.drew.grownBy w4 (some g) := grown_of_below hb4 _
        refine wpAnyH_ready (rs := [8]) (by kernel_rfl) (by simp) ?_
        refine AllReadyH.cons (o := ⟨_, _, _, _, _, _⟩) rfl (fun K hK => ?_) AllReadyH.nil
        go_simp
        refine (mix_any g 66 st _ _ Hew.out w4 hg0 hT4 hrow4).mono ?_
        rintro e w5 ⟨rfl, hrow5, hg5⟩
        try simp only []
        refine hK.out _ _ ?_ (fun hHeld => ?_)
        · exact fun j v hj => hrow5.cell (hcells_byte (s := mixW st (ext (words16 blk2) 48)) hj)
        clear hK K
        try simp only [Act.put, List.setIfInBounds_toArray, List.set_cons_zero, List.set_cons_succ]
        refine wpAnyH_done (by kernel_rfl) ?_ _
        go_wp2_with fail
        go_roundw
        case rel =>
          refine ⟨k + q, A2, n' - q, c' - q, by omega, rfl, by omega, by omega, by omega, Lib.hid ?_, HA2, ?_, Lib.hid ?_⟩
          · exact (HL3.out.drew.aside HA2.out (grown_trans hg4 hg5) (by have := HB.out; have := hg3.size; exact Nat.le_trans HB.out hg3.size))
          · rw [← Hm3.out]
            refine ⟨blk2, Hb2.out, F2.out, ?_⟩
            rw [F3.out, mixB_eq, Hlen.out]
            exact hrow5
          · exact grown_trans (grown_drew Hgr3.out) (grown_trans hg4 hg5)
        case measure => show n' - q < n'; omega
      · have hd : (((M : Int) + (q : Int)) % 64 == 0) = false := by rw [beq_eq_false_iff_ne]; omega
        obtain ⟨f1, f2, f3⟩ := rest_fill (t := x2.take q) Hb64.out Htk.out (by rw [HtL.out, Hr.out]; omega)
        rw [Hr.out] at f1 f2
        rw [Hst.out] at f3
        have F2 := Lib.hid f2
        have F3 := Lib.hid f3
        clear f1 f2 f3
        generalize over blk r (x2.take q) = blk2 at *
        go_wp2_with fail
        refine wp_region_still_tail 10 (by kernel_rfl) (by kernel_rfl) ?_
        simp only [List.take_succ_cons, List.take_zero, List.drop_succ_cons, List.drop_zero]
        iterate 10 still_step
        refine wpStill_nil ?_
        change wpList _ _ _ _ _ wr.drew
        go_wp2_with fail
        go_roundw
        case rel =>
          refine ⟨k + q, A2, n' - q, c' - q, by omega, rfl, by omega, by omega, by omega, HL3, HA2, ?_, Hgr3⟩
          rw [← Hm3.out]
          refine ⟨blk2, Hb2.out, F2.out, ?_⟩
          rw [F3.out, Hlen.out]
          exact hrow3
        case measure => show n' - q < n'; omega
    · obtain rfl : n' = 0 := by omega
      obtain rfl : k = n := by omega
      have hx : xs.take k = xs := by rw [List.take_of_length_le (by rw [← Hn.out]; omega)]
      rw [hx] at hH
      go_wp2_with fail
      go_end0
      exact ⟨rfl, hH, Hgr.out⟩
end Go.Proofs.YtmcbpifkclhfiaaDoor
