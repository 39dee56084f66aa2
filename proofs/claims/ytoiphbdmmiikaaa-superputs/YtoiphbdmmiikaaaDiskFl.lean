/-
  Layer 6: the contract of Flush.
-/
import Derived.Test.YtoiphbdmmiikaaaDiskWr
namespace Go.Proofs.Ytoiphbdmmiikaaa
open Go.RowKit Go.Maps
set_option linter.unusedVariables false

theorem chg_size (c : Chg) : (Try.prog.info? 75).map (·.size) = some c.cs.length := by rw [Chg.cs_length]; exact Try.sizeC
theorem chg_size' (c : Chg) : (Try.prog.info? 75).map (·.size) = some c.cs.toArray.size := by rw [List.size_toArray]; exact chg_size c
theorem chg_all (c : Chg) : c.cs.toArray.all (·.oneCell') = true := all_oneCell_toArray c.one
def noChg : Chg := (0, zeroSec)
theorem Try.zeroCC : (Try.prog.info? 75).bind (·.zero) = some (.agg noChg.cs.toArray) := Try.zeroC
theorem chg_same (s t : Chg) : s.cs.toArray.size = t.cs.toArray.size := by rw [List.size_toArray, List.size_toArray, Chg.cs_length, Chg.cs_length]

theorem take_succ' {α : Type} {l : List α} {k : Nat} {c : α} (h : l[k]? = some c) : l.take (k + 1) = l.take k ++ [c] := by
  rw [List.take_add_one, h]
  rfl
/-- A sector of the durable row is written. -/
theorem DiskAt.put_sec {w : World} {base g bm n cap gd : Nat} {vw : Value} {d : Dk} (h : DiskAt w base g (.slice (some ⟨gd, 0, none⟩) n cap) vw bm d) (hn : d.dur.length = n) {i : Nat} (hi : i < n) (s : Sec) :
    w.there gd (i * 256) s.cs.toArray.size ∧ DiskAt (w.setCells gd (i * 256) s.cs) base g (.slice (some ⟨gd, 0, none⟩) n cap) vw bm { d with dur := d.dur.set i s } ∧ w.grownBy (w.setCells gd (i * 256) s.cs) (some gd) := by
  have hd := h.dur
  rw [hn] at hd
  have hle : i * 256 + 256 ≤ n * 256 := by have := Nat.mul_le_mul_right 256 (show i + 1 ≤ n from hi); omega
  obtain ⟨h1, h2⟩ := own_put s.cs (i * 256) w _ hd (by rw [Sec.cs_length]; exact hle)
  rw [secs_put (by omega)] at h1
  refine ⟨own_there hd _ _ (by rw [List.size_toArray, Sec.cs_length]; exact hle), ⟨h.row.keep h2 (fun e => h.dg e), ?_, h.wait.kept h2 (.inr (h.dw rfl)), h.map.kept h2 (fun e => h.dm e.symm), h.hg, h.hm⟩, h2⟩
  show World.ownsRow _ _ _ _ _ (d.dur.set i s).length _
  rw [List.length_set, hn]
  exact h1

set_option maxRecDepth 100000 in
set_option maxHeartbeats 4000000 in
theorem dflush_any (w : World) (base g : Nat) (L : List Nat) (d : Dk) (hk : d.Ok) (h : Disk w base L g d) :
    Calls Try.prog 15 #[.pointer (some ⟨g, 0, none⟩)] w fun e w' => e = .returned (.int .i64 d.flush.2) ∧ Turned w base L g d.flush.1 w' := by
  obtain ⟨vd, vw, bm, h, rfl⟩ := h
  have Hk := Lib.hid hk
  have HD := Lib.hid h
  clear h hk
  cases hdd : d.dead
  · have Hv : Hid (d.flush = ({ d.stepped with dur := Dk.settle d.dur d.wait, wait := [] }, 0)) := by show _ = _; simp [Dk.flush, hdd]
    go_enter Try.func15, Try.ntmps15
    go_wp2_with fail
    refine (dstep_any w base g bm vd vw d Hk.out HD.out).mono ?_
    rintro e w1 ⟨rfl, hD1, hg1⟩
    rw [hdd]
    have ed : d.stepped.dur = d.dur := by unfold Dk.stepped; split <;> rfl
    have ew : d.stepped.wait = d.wait := by unfold Dk.stepped; split <;> rfl
    have HB1 : Hid (But (foot g bm vd vw) w.heap.size w w1) := (But.refl _ _ w).grown hg1 (by intro k e; injection e with e; left; simp [mem_foot, e]) (Nat.le_refl _)
    obtain ⟨gd, cd, hvd, _, _, _, _⟩ := own_form HD.out.dur Hk.out.pos
    obtain ⟨A, cw, hvw, hcw, hcm⟩ := own_slice HD.out.wait
    have hat : ∀ c ∈ d.wait, c.1 < d.dur.length := Hk.out.at_
    have Hat := Lib.hid hat
    have hpn : d.wait.length ≤ 1000000 := Hk.out.wait
    generalize hst : d.stepped = st at *
    rw [← ed, ← ew] at Hv Hat
    have hdl : st.dur.length = d.dur.length := by rw [ed]
    have hwl : st.wait.length = d.wait.length := by rw [ew]
    have HN : Hid (st.dur.length = d.dur.length ∧ st.wait.length = d.wait.length) := ⟨hdl, hwl⟩
    have Hcap : Hid (d.wait.length ≤ cw) := hcw
    clear hdl hwl hat hdd hcw hcm hst ed ew hg1
    generalize d.dur.length = N at *
    generalize d.wait.length = n at *
    subst hvd hvw
    have c1 := hD1.c1
    have HD1 := Lib.hid hD1
    clear hD1
    go_wp2_with fail
    go_loopw [16] (fun v W => ∃ k : Nat, k ≤ n ∧ v = .int .i64 k ∧ Hid (DiskAt W base g (.slice (some ⟨gd, 0, none⟩) N cd) (.slice A n cw) bm { st with dur := Dk.settle st.dur (st.wait.take k) }) ∧ Hid (But (foot g bm (.slice (some ⟨gd, 0, none⟩) N cd) (.slice A n cw)) w.heap.size w W)) (fun v _ => n - (intOf v).toNat)
    case atStart => exact ⟨0, Nat.zero_le _, rfl, HD1, HB1⟩
    case round =>
      obtain ⟨k, hkn, rfl, HDk, HBk⟩ := hrel
      clear c1 HD1 HB1
      by_cases hlt : k < n
      · have hget : ∃ c, st.wait[k]? = some c := ⟨_, List.getElem?_eq_getElem (by rw [HN.out.2]; exact hlt)⟩
        obtain ⟨c, hc⟩ := hget
        have hwk := HDk.out.wait
        obtain ⟨gw, cw', hvw, _, _, _, hgw⟩ := own_form hwk (by show 0 < st.wait.length; rw [HN.out.2]; omega)
        injection hvw with h1 h2 h3
        subst h1 h3
        have hwk' : wr.ownsRow base 75 257 (.slice (some ⟨gw, 0, none⟩) n cw) n (chgs st.wait) := by have := hwk; rw [show ({ st with dur := Dk.settle st.dur (st.wait.take k) } : Dk).wait.length = n from HN.out.2] at this; exact this
        have hr := chg_range hwk' hc
        have hlt' : (k : Int) < (n : Int) := by omega
        have hk0 : (0 : Int) ≤ (k : Int) := by omega
        have Hs := Lib.hid (chg_size c)
        clear hwk hwk' hkn h2
        go_wp2_with (first
          | ((with_reducible refine at_load 75 ?_); refine wpList_load_mid rfl 75 _ rfl gw (k * 257) rfl c.cs _ hr Try.underlying75 rfl Hs.out ?_)
          | ((with_reducible refine at_alloc 75 ?_); refine wpList_alloc_rowV rfl 75 rfl noChg.cs Try.zeroCC ?_; intro wA hrA hbA hsA)
          | ((with_reducible refine at_store 75 ?_); refine wpList_store_row rfl 75 _ _ rfl wr.heap.size c.cs.toArray rfl rfl 75 noChg.cs.toArray hrA (chg_size' _) (chg_same _ _) (chg_all _) ?_))
        have hbB := below_put hbA (Nat.le_refl _) c.cs.toArray
        have hrB := hrA.put c.cs
        generalize wA.setRow wr.heap.size c.cs.toArray = wB at *
        have HDB := Lib.hid (HDk.out.below hbB)
        have hc0 := HDB.out.c0
        have hcA : wB.cell? ⟨wr.heap.size, 0, none⟩ = some (.int .i64 (c.1 : Int)) := hrB.cell rfl
        have hcR : wB.drew.rangeAt wr.heap.size 1 c.2.cs := fun j v hj => hrB.drew.cell (by rw [Nat.add_comm]; exact hj)
        have hci : c.1 < N := by have := Hat.out c (List.mem_of_getElem? hc); rw [HN.out.1] at this; exact this
        have hci' : (c.1 : Int) < (N : Int) := by omega
        have hci0 : (0 : Int) ≤ (c.1 : Int) := by omega
        have Hsec := Lib.hid (sec_size c.2)
        obtain ⟨hth', hDC, hgC⟩ := HDB.out.drew.put_sec (by show (Dk.settle st.dur (st.wait.take k)).length = N; rw [settle_length]; exact HN.out.1) hci c.2
        have hBB : But (foot g bm (.slice (some ⟨gd, 0, none⟩) N cd) (.slice (some ⟨gw, 0, none⟩) n cw)) w.heap.size w wB := HBk.out.trans ((But.of _ hbB).less HBk.out.size)
        have hszB : w.heap.size ≤ wB.heap.size := hBB.size
        have HBC : Hid (But (foot g bm (.slice (some ⟨gd, 0, none⟩) N cd) (.slice (some ⟨gw, 0, none⟩) n cw)) w.heap.size w (wB.drew.setCells gd (c.1 * 256) c.2.cs)) := hBB.drew.grown hgC (by intro k e; injection e with e; left; simp [mem_foot, Value.ownBlock, e]) hszB
        have HDC := Lib.hid hDC
        clear hDC hgC hBB hr hbA hbB hrA hrB HDB
        go_wp2_with fail
        refine wp_region_still_tail 9 (by kernel_rfl) (by kernel_rfl) ?_
        simp only [List.take_succ_cons, List.take_zero, List.drop_succ_cons, List.drop_zero]
        iterate 7 still_step
        refine wpStill_exec (.agg c.2.cs.toArray) rfl ?_ ?_
        · refine exec_load_mid 24 (.tmp 26) ?_ wr.heap.size 1 ?_ c.2.cs _ hcR Try.underlying24 rfl Hsec.out <;> rfl
        try simp only [Act.put, List.setIfInBounds_toArray, List.set_cons_zero, List.set_cons_succ]
        still_step
        refine wpStill_nil ?_
        change wpList _ _ _ _ _ wB.drew
        go_wp2_with ((with_reducible refine at_store 24 ?_); refine wpList_store_mid rfl 24 _ _ rfl gd (c.1 * 256) c.2.cs.toArray rfl rfl hth' (sec_size' _) (sec_all _) ?_)
        go_roundw
        case rel =>
          refine ⟨k + 1, by omega, rfl, Lib.hid ?_, HBC⟩
          rw [take_succ' hc, settle_snoc]
          exact HDC.out
        case measure => show n - (k + 1) < n - k; omega
      · obtain rfl : k = n := by omega
        go_wp2_with fail
        refine (dforget_any wr base g bm _ _ _ HDk.out).mono ?_
        rintro e w2 ⟨rfl, hD2, hB2⟩
        go_wp2_with fail
        go_ret
        rw [Hv.out]
        have et : st.wait.take k = st.wait := List.take_of_length_le (by rw [HN.out.2]; exact Nat.le_refl _)
        rw [et] at hD2
        refine ⟨rfl, _, ⟨_, _, bm, hD2, rfl⟩, HBk.out.trans (hB2.mono HBk.out.size ?_), ?_⟩
        · intro j _ hj
          rcases List.mem_cons.1 hj with rfl | hj
          · simp [mem_foot]
          · simp at hj; simp [mem_foot, hj]
        · intro j hj
          left
          rcases mem_foot.1 hj with rfl | rfl | hj | hj
          · simp [mem_foot]
          · simp [mem_foot]
          · simp [mem_foot, hj]
          · simp [Value.ownBlock] at hj
  · have Hv : Hid (d.flush = (d.stepped, 4)) := by show _ = _; simp [Dk.flush, hdd]
    go_enter Try.func15, Try.ntmps15
    go_wp2_with fail
    refine (dstep_any w base g bm vd vw d Hk.out HD.out).mono ?_
    rintro e w1 ⟨rfl, hD1, hg1⟩
    rw [hdd]
    go_wp2_with fail
    go_ret
    rw [Hv.out]
    exact ⟨rfl, _, ⟨vd, vw, bm, hD1, rfl⟩, (But.refl _ _ w).grown hg1 (by intro k e; injection e with e; left; simp [mem_foot, e]) (Nat.le_refl _), fun k hk => .inl hk⟩
end Go.Proofs.Ytoiphbdmmiikaaa
