/-
  Layer 6: the contract of Crash.
-/
import Derived.Test.YtoiphbdmmiikaaaDiskFl
import Derived.Test.YtoiphbdmmiikaaaMemV
namespace Go.Proofs.Ytoiphbdmmiikaaa
open Go.RowKit Go.Maps
set_option linter.unusedVariables false

/-- A slice of bools that lies apart from the blocks of L. -/
def Bools (w : World) (L : List Nat) (v : Value) (keep : List Bool) : Prop := ∃ A c, v = .slice A keep.length c ∧ keep.length ≤ c ∧ keep.length ≤ 1000000 ∧ LiesV w w.heap.size A (keep.map Value.bool) ∧ (keep ≠ [] → ∀ a, A = some a → a.block ∉ L)
theorem kept_step {keep : List Bool} {ws : List Chg} {k : Nat} {b : Bool} {c : Chg} (hb : keep[k]? = some b) (hc : ws[k]? = some c) : Dk.kept (keep.take (k + 1)) ws = Dk.kept (keep.take k) ws ++ (if b then [c] else []) := by
  induction ws generalizing keep k with
  | nil => simp at hc
  | cons w ws ih =>
    cases keep with
    | nil => simp at hb
    | cons x keep =>
      cases k with
      | zero =>
        simp at hb hc
        subst hb hc
        cases x <;> simp [Dk.kept]
      | succ k =>
        have := ih (keep := keep) (k := k) (by simpa using hb) (by simpa using hc)
        unfold Dk.kept at this ⊢
        simp only [List.take_succ_cons, List.zip_cons_cons, List.filterMap_cons, this]
        cases x <;> simp
theorem kept_all (keep : List Bool) (ws : List Chg) (h : Nat) (hh : min keep.length ws.length ≤ h) : Dk.kept (keep.take h) ws = Dk.kept keep ws := by
  induction ws generalizing keep h with
  | nil => simp [Dk.kept]
  | cons w ws ih =>
    cases keep with
    | nil => simp [Dk.kept]
    | cons x keep =>
      cases h with
      | zero => simp at hh
      | succ h =>
        have := ih keep h (by simp at hh; omega)
        unfold Dk.kept at this ⊢
        simp only [List.take_succ_cons, List.zip_cons_cons, List.filterMap_cons, this]
theorem kept_zero (keep : List Bool) (ws : List Chg) : Dk.kept (keep.take 0) ws = [] := by simp [Dk.kept]
theorem kept_length (keep : List Bool) (ws : List Chg) : (Dk.kept keep ws).length ≤ keep.length := by
  unfold Dk.kept
  refine Nat.le_trans (List.length_filterMap_le _ _) ?_
  rw [List.length_zip]
  omega

set_option maxRecDepth 100000 in
set_option maxHeartbeats 4000000 in
theorem dcrash_any (w : World) (base g : Nat) (L : List Nat) (d : Dk) (keep : List Bool) (v : Value) (hk : d.Ok) (h : Disk w base L g d) (hv : Bools w L v keep) :
    Calls Try.prog 18 #[.pointer (some ⟨g, 0, none⟩), v] w fun e w' => e = .returned (.int .i64 (d.crash keep).2) ∧ Turned w base L g (d.crash keep).1 w' := by
  obtain ⟨vd, vw, bm, h, rfl⟩ := h
  obtain ⟨B, cb, rfl, hcb, hkl, hlie, hap⟩ := hv
  have Hk := Lib.hid hk
  have HD := Lib.hid h
  obtain ⟨gd, cd, hvd, _, _, _, _⟩ := own_form HD.out.dur Hk.out.pos
  obtain ⟨A, cw, hvw, hcw, hcm⟩ := own_slice HD.out.wait
  have c1 := h.c1
  rw [hvw] at c1
  have hpn : d.wait.length ≤ 1000000 := Hk.out.wait
  have Hlie := Lib.hid hlie
  have Hap := Lib.hid hap
  clear h hk hlie hap
  generalize hn : d.wait.length = n at *
  generalize hm : keep.length = m at *
  generalize hN : d.dur.length = N at *
  have Hn := Lib.hid hn
  have Hm := Lib.hid hm
  have HNN := Lib.hid hN
  clear hn hm hN
  obtain ⟨h, hh⟩ : ∃ h, min m n = h := ⟨_, rfl⟩
  have e1 : (if n < m then (n : Int) else (m : Int)) = (h : Int) := by split <;> omega
  have hhn : h ≤ n := by omega
  have hhm : h ≤ m := by omega
  have hhc : (h : Int) ≤ (cw : Int) := by omega
  go_enter Try.func18, Try.ntmps18
  go_wp2_with fail
  refine wp_region_still_lit (by kernel_rfl) (by kernel_rfl) ?_
  iterate 15 still_step
  refine wpStill_nil ?_
  subst hvd hvw
  have hD0 : DiskAt w.drew base g (.slice (some ⟨gd, 0, none⟩) N cd) (.slice A n cw) bm { d with dur := Dk.settle d.dur (Dk.kept (keep.take 0) d.wait) } := by rw [kept_zero]; exact HD.out.drew
  have hB0 : But (foot g bm (.slice (some ⟨gd, 0, none⟩) N cd) (.slice A n cw)) w.heap.size w w.drew := (But.refl _ _ w).drew
  change Exit.then _ _ _ _ w.drew
  generalize w.drew = w1 at *
  have HD0 := Lib.hid hD0
  have HB0 := Lib.hid hB0
  clear hD0 hB0 c1
  go_wp2_with fail
  go_loopw [5, 22] (fun x v W => ∃ k : Nat, k ≤ h ∧ v = .int .i64 k ∧ x = .int .i64 ((Dk.kept (keep.take k) d.wait).length : Int) ∧ Hid (DiskAt W base g (.slice (some ⟨gd, 0, none⟩) N cd) (.slice A n cw) bm { d with dur := Dk.settle d.dur (Dk.kept (keep.take k) d.wait) }) ∧ Hid (But (foot g bm (.slice (some ⟨gd, 0, none⟩) N cd) (.slice A n cw)) w.heap.size w W)) (fun _ v _ => h - (intOf v).toNat)
  case atStart => exact ⟨0, Nat.zero_le _, rfl, by rw [kept_zero]; rfl, HD0, HB0⟩
  case round =>
    obtain ⟨k, hkn, rfl, rfl, HDk, HBk⟩ := hrel
    clear HD0 HB0
    have hcnt : (Dk.kept (keep.take k) d.wait).length ≤ 1000000 := by
      have h1 := kept_length (keep.take k) d.wait
      rw [List.length_take] at h1
      omega
    generalize hq : (Dk.kept (keep.take k) d.wait).length = q at *
    by_cases hlt : k < h
    · obtain ⟨c, hc⟩ : ∃ c, d.wait[k]? = some c := ⟨_, List.getElem?_eq_getElem (by rw [Hn.out]; omega)⟩
      obtain ⟨b, hb⟩ : ∃ b, keep[k]? = some b := ⟨_, List.getElem?_eq_getElem (by rw [Hm.out]; omega)⟩
      have hwk := HDk.out.wait
      obtain ⟨gw, cw', hvw, _, _, _, hgw⟩ := own_form hwk (by show 0 < d.wait.length; rw [Hn.out]; omega)
      injection hvw with h1 h2 h3
      subst h1 h3
      have hwk' : wr.ownsRow base 75 257 (.slice (some ⟨gw, 0, none⟩) n cw) n (chgs d.wait) := by have := hwk; rw [show ({ d with dur := Dk.settle d.dur (Dk.kept (keep.take k) d.wait) } : Dk).wait.length = n from Hn.out] at this; exact this
      have hr := chg_range hwk' hc
      have hlt' : (k : Int) < (h : Int) := by omega
      have hltm : (k : Int) < (m : Int) := by omega
      have hk0 : (0 : Int) ≤ (k : Int) := by omega
      have Hs := Lib.hid (chg_size c)
      obtain ⟨bk, ok, hB, hbk, hcell⟩ := Hlie.out.at_ (i := k) (v := .bool b) (by rw [List.getElem?_map, hb]; rfl)
      have hnot := Hap.out (by rintro rfl; simp at hb) _ hB
      subst hB
      have Hnot := Lib.hid hnot
      have Hcell : Hid (wr.cell? ⟨bk, ok + k, none⟩ = some (.bool b)) := (World.cell?_of_block (HBk.out.block bk hbk hnot)).trans hcell
      have hbkr : bk < wr.heap.size := Nat.lt_of_lt_of_le hbk HBk.out.size
      clear hwk hwk' hkn h2 hcell hnot
      go_wp2_with (first
        | ((with_reducible refine at_load 75 ?_); refine wpList_load_mid rfl 75 _ rfl gw (k * 257) rfl c.cs _ hr Try.underlying75 rfl Hs.out ?_)
        | ((with_reducible refine at_alloc 75 ?_); refine wpList_alloc_rowV rfl 75 rfl noChg.cs Try.zeroCC ?_; intro wA hrA hbA hsA)
        | ((with_reducible refine at_store 75 ?_); refine wpList_store_row rfl 75 _ _ rfl wr.heap.size c.cs.toArray rfl rfl 75 noChg.cs.toArray hrA (chg_size' _) (chg_same _ _) (chg_all _) ?_; have hbB := below_put hbA (Nat.le_refl _) c.cs.toArray; have hrB := hrA.put c.cs; generalize wA.setRow wr.heap.size c.cs.toArray = wB at *; have hkc : wB.cell? ⟨bk, ok + k, none⟩ = some (.bool b) := (hbB.cell hbkr).trans Hcell.out))
      · have hbt : b = true := by assumption
        subst hbt
        have HDB := Lib.hid (HDk.out.below hbB)
        have hc0 := HDB.out.c0
        have hcA : wB.cell? ⟨wr.heap.size, 0, none⟩ = some (.int .i64 (c.1 : Int)) := hrB.cell rfl
        have hcR : wB.drew.rangeAt wr.heap.size 1 c.2.cs := fun j v hj => hrB.drew.cell (by rw [Nat.add_comm]; exact hj)
        have hci : c.1 < N := by have := Hk.out.at_ c (List.mem_of_getElem? hc); rw [HNN.out] at this; exact this
        have hci' : (c.1 : Int) < (N : Int) := by omega
        have hci0 : (0 : Int) ≤ (c.1 : Int) := by omega
        have Hsec := Lib.hid (sec_size c.2)
        obtain ⟨hth', hDC, hgC⟩ := HDB.out.drew.put_sec (by show (Dk.settle d.dur (Dk.kept (keep.take k) d.wait)).length = N; rw [settle_length]; exact HNN.out) hci c.2
        have hBB : But (foot g bm (.slice (some ⟨gd, 0, none⟩) N cd) (.slice (some ⟨gw, 0, none⟩) n cw)) w.heap.size w wB := HBk.out.trans ((But.of _ hbB).less HBk.out.size)
        have hszB : w.heap.size ≤ wB.heap.size := hBB.size
        have HBC : Hid (But (foot g bm (.slice (some ⟨gd, 0, none⟩) N cd) (.slice (some ⟨gw, 0, none⟩) n cw)) w.heap.size w (wB.drew.setCells gd (c.1 * 256) c.2.cs)) := hBB.drew.grown hgC (by intro k e; injection e with e; left; simp [mem_foot, Value.ownBlock, e]) hszB
        have HDC := Lib.hid hDC
        clear hDC hgC hBB hr hbA hbB hrA hrB HDB
        refine wp_region_still_tail 9 (by kernel_rfl) (by kernel_rfl) ?_
        simp only [List.take_succ_cons, List.take_zero, List.drop_succ_cons, List.drop_zero]
        iterate 7 still_step
        refine wpStill_exec (.agg c.2.cs.toArray) rfl ?_ ?_
        · refine exec_load_mid 24 (.tmp 37) ?_ wr.heap.size 1 ?_ c.2.cs _ hcR Try.underlying24 rfl Hsec.out <;> rfl
        try simp only [Act.put, List.setIfInBounds_toArray, List.set_cons_zero, List.set_cons_succ]
        still_step
        refine wpStill_nil ?_
        change wpList _ _ _ _ _ wB.drew
        go_wp2_with ((with_reducible refine at_store 24 ?_); refine wpList_store_mid rfl 24 _ _ rfl gd (c.1 * 256) c.2.cs.toArray rfl rfl hth' (sec_size' _) (sec_all _) ?_)
        go_roundw
        case rel =>
          refine ⟨k + 1, by omega, rfl, ?_, Lib.hid ?_, HBC⟩
          · rw [kept_step hb hc, List.length_append, hq]; rfl
          · rw [kept_step hb hc, if_pos rfl, settle_snoc]
            exact HDC.out
        case measure => show h - (k + 1) < h - k; omega
      · have hbt : b = false := by assumption
        subst hbt
        go_roundw
        case rel =>
          refine ⟨k + 1, by omega, rfl, ?_, Lib.hid ?_, Lib.hid (HBk.out.trans ((But.of _ hbB).less HBk.out.size))⟩
          · rw [kept_step hb hc, List.length_append, hq]; rfl
          · rw [kept_step hb hc, if_neg (by decide), List.append_nil]
            exact HDk.out.below hbB
        case measure => show h - (k + 1) < h - k; omega
    · obtain rfl : k = h := by omega
      have Hall : Hid (Dk.kept (keep.take k) d.wait = Dk.kept keep d.wait) := by show _ = _; exact kept_all _ _ _ (by rw [Hm.out, Hn.out]; omega)
      have Hq := Lib.hid hq
      clear hq
      go_wp2_with fail
      refine (dforget_any wr base g bm _ _ _ HDk.out).mono ?_
      rintro e w2 ⟨rfl, hD2, hB2⟩
      have h6 := hD2.c6
      have f6 := hD2.row.free 6
      have hD3 := hD2.cells_put (d' := { d with dur := Dk.settle d.dur (Dk.kept (keep.take k) d.wait), wait := [], down := false }) (gset (i := 6) (World.grownBy.refl w2 (some g)) (.bool false)) (hD2.row.setCell 6 _) rfl rfl
      have hB3 := hB2.setCell (p := ⟨g, 6, none⟩) (.inl (by simp)) (.bool false)
      have HD3 := Lib.hid hD3
      have HB3 := Lib.hid hB3
      clear hD2 hD3 hB2 hB3
      go_wp2_with fail
      refine (dfuse_any _ base g bm _ _ _ (-1) HD3.out).mono ?_
      rintro e w4 ⟨rfl, hD4, hg4⟩
      go_wp2_with fail
      go_ret
      have hB4 : But [g, bm] wr.heap.size wr w4 := HB3.out.grown hg4 (by intro k e; injection e with e; left; simp [e]) HB3.out.size
      rw [Hall.out] at hD4 Hq
      refine ⟨by rw [Dk.crash, Hq.out]; rfl, _, ⟨_, _, bm, hD4, rfl⟩, HBk.out.trans (hB4.mono HBk.out.size ?_), ?_⟩
      · intro j _ hj
        rcases List.mem_cons.1 hj with rfl | hj
        · simp [mem_foot]
        · simp at hj; simp [mem_foot, hj]
      · intro j hj
        left
        rcases mem_foot.1 hj with rfl | rfl | hj | hj
        · simp [mem_foot]
        · simp [mem_foot]
        · simp [mem_foot, hj]
        · simp [Value.ownBlock] at hj
end Go.Proofs.Ytoiphbdmmiikaaa
