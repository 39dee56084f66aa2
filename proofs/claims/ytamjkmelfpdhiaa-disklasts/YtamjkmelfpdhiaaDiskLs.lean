/-
  Layer 6: the walk of DiskLasts.
-/
import Derived.Test.YtamjkmelfpdhiaaDiskSn
import Derived.BigQuiet
namespace Go.Proofs.Ytamjkmelfpdhiaa
open Go.RowKit Go.Maps
set_option linter.unusedVariables false
set_option linter.unusedSimpArgs false

theorem Try.zeroA6 : (Try.prog.info? 42).bind (·.zero) = some (.agg (List.replicate 6 (Value.slice none 0 0)).toArray) := by kernel_rfl
theorem Try.sizeSl : (Try.prog.info? 29).map (·.size) = some 1 := by kernel_rfl
theorem own_of_rowV {w : World} {g base : Nat} {s : Sec} (h : RowV w g 43 s.cs) (hb : base ≤ g) : w.ownsRow base 43 256 (.slice (some ⟨g, 0, none⟩) 1 1) 1 (secs [s]) := by
  have e : secs [s] = s.cs := by simp [secs]
  rw [e]
  exact ⟨by rw [Sec.cs_length], .inr ⟨g, 1, s.cs.toArray, rfl, hb, h, Nat.le_refl _, by unfold maxLen; omega, by rw [List.size_toArray, Sec.cs_length], by rw [List.toList_toArray, List.take_of_length_le (by rw [Sec.cs_length]; omega)]⟩⟩
theorem Tied.congr {d : Dk} {ss ss' : Nat → List Sec} (h : Tied d ss) (hok : d.Ok) (he : ∀ k, k < 6 → ss' k = ss k) : Tied d ss' := by
  refine ⟨h.six, h.up, h.fuse, fun k hk => by rw [he k hk]; exact h.last k hk, fun k s hs => ?_, fun c hc => ?_⟩
  · have hk : k < 6 := by have := (List.getElem?_eq_some_iff.1 hs).1; rw [h.six] at this; exact this
    rw [he k hk]; exact h.dur k s hs
  · have := hok.at_ c hc
    rw [h.six] at this
    rw [he _ this]; exact h.wait c hc
theorem wp_of_exec {P : Program} {o : Oper} {a : Act} {w : World} {K : Act → World → Prop} {Q : Exit → Act → World → Prop} (v : Value) (he : (execOp a.eval o).run P w = .ok (.value v) w) (h : K (a.put o.dst v) w) : o.wp P a w K Q := by
  unfold Oper.wp
  rw [he]
  exact h
theorem upd_same (n : Nat) (s : Sec) : upd (fun _ => [s]) n [s] = fun _ => [s] := by funext j; unfold upd; split <;> rfl

set_option maxRecDepth 100000 in
set_option maxHeartbeats 8000000 in
theorem lasts_any (w : World) (A B : Option Addr) (c c' : Nat) (l : List OpV) (keep : List Bool) (h : OpsAt w w.heap.size A l) (hc : l.length ≤ c) (hk : LiesV w w.heap.size B (keep.map Value.bool)) (hc' : keep.length ≤ c') :
    Calls Try.prog 4 #[.slice A l.length c, .slice B keep.length c'] w fun e w' => e = .returned (.bool true) ∧ Below w.heap.size w w' := by
  have HO := Lib.hid h
  have Hc := Lib.hid hc
  have HK := Lib.hid hk
  have Hc' := Lib.hid hc'
  clear h hc hk hc'
  cases hlt : lightB l
  · go_enter Try.func4, Try.ntmps4
    go_wp2_with fail
    refine (light_any w w.heap.size A c l HO.out Hc.out).mono ?_
    rintro e w1 ⟨rfl, hww⟩
    rw [hww, hlt]
    go_wp2_with fail
    refine (works_any w).mono ?_
    rintro e w2 ⟨rfl, hb2⟩
    go_wp2_with fail
    go_ret
    exact ⟨rfl, hb2⟩
  by_cases hx : 100 < (keep.length : Int)
  · go_enter Try.func4, Try.ntmps4
    go_wp2_with fail
    refine (light_any w w.heap.size A c l HO.out Hc.out).mono ?_
    rintro e w1 ⟨rfl, hww⟩
    rw [hww, hlt]
    go_wp2_with fail
    refine (works_any w).mono ?_
    rintro e w2 ⟨rfl, hb2⟩
    go_wp2_with fail
    go_ret
    exact ⟨rfl, hb2⟩
  have hk100 : (keep.length : Int) ≤ 100 := by omega
  clear hx
  have Hl := Lib.hid hlt
  have hm80 := light_len hlt
  go_enter Try.func4, Try.ntmps4
  go_wp2_with fail
  refine (light_any w w.heap.size A c l HO.out Hc.out).mono ?_
  rintro e w1 ⟨rfl, hww⟩
  rw [hww, hlt]
  clear hlt hww w1
  generalize hm : l.length = m at *
  generalize hq : keep.length = q at *
  have Hm := Lib.hid hm
  have Hq := Lib.hid hq
  clear hm hq
  go_wp2_with fail
  refine (dnew_any w 6 (by omega) (by omega)).mono ?_
  rintro e w2 ⟨g, L, rfl, hD2, hb2⟩
  go_wp2_with ((with_reducible refine at_alloc 42 ?_); refine wpList_alloc_rowV rfl 42 rfl _ Try.zeroA6 ?_)
  intro w3 hr3 hb3 hs3
  have hH : Held w w.heap.size w2.heap.size g 0 w3 0 L (List.replicate 6 (Value.slice none 0 0)) (fun _ => [zeroSec]) (Dk.new 6) := by
    refine ⟨⟨hr3, hb2.size, fun hm => by have := (hD2.lt hm).2; omega, by simp, fun k _ hk => by rw [List.getElem?_replicate, if_pos hk], fun k v hk => absurd hk (by omega), fun i j v v' _ hv _ k hk => ?_, fun i v k hv hk => ?_⟩, hD2.below hb3, new_ok (by omega) (by omega), Nat.le_refl _, Nat.le_refl _, hb2.trans (hb3.mono hb2.size), by have := hb2.size; omega⟩
    · have := List.mem_of_getElem? hv
      simp only [List.mem_replicate] at this
      rw [this.2] at hk; cases hk
    · have := List.mem_of_getElem? hv
      simp only [List.mem_replicate] at this
      rw [this.2] at hk; cases hk
  generalize w2.heap.size = N7 at *
  have HH := Lib.hid hH
  clear hH hr3 hb3 hs3 hD2 hb2
  go_wp2_with fail
  go_loopw [8] (fun v W => ∃ (n : Nat) (vs : List Value), n ≤ 6 ∧ v = .int .i64 n ∧ Hid (Held w w.heap.size N7 g n W 0 L vs (fun _ => [zeroSec]) (Dk.new 6))) (fun v _ => 6 - (intOf v).toNat)
  case atStart => exact ⟨0, _, by omega, rfl, HH⟩
  case round =>
    clear HH
    obtain ⟨n, vs, hn6, rfl, HH⟩ := hrel
    by_cases hlt : n < 6
    · have hlt' : (n : Int) < 6 := by omega
      go_wp2_with fail
      refine (filled_any _ 0).mono ?_
      rintro e wA ⟨rfl, hbA⟩
      have HHA := Lib.hid (HH.out.below hbA)
      clear HH hbA
      go_wp2_with ((with_reducible refine at_buildSlice 29 ?_); refine wpList_buildSlice_oneV rfl 29 43 _ rfl (zeroSec.cs) rfl Try.underlying29 Try.infoS (Sec.cs_length _) (by decide) (by decide) ?_)
      intro wB hrB hbB hsB
      have HHB := Lib.hid (HHA.out.below hbB)
      have hrow := HHB.out.seen.row
      have hlen := HHB.out.seen.len
      have hgeA := HHA.out.hs
      have hvn : n < vs.length := by omega
      go_wp2_with ((with_reducible refine at_store 29 ?_); refine wpList_store_slot rfl 29 _ _ rfl N7 n rfl _ rfl rfl 42 vs hrow hvn Try.sizeSl ?_)
      intro wC hrC hgC hsC
      have hgB : wA.grownBy wB (Value.slice none 0 0).ownBlock := ⟨hbB.os, hbB.tape, hbB.output, hbB.size, fun k hk _ => hbB.block k hk⟩
      have HHC := Lib.hid (HHA.out.put (k' := 0) (HHA.out.seen.nil n (Nat.le_refl _) hlt) hgB (Tl.of (own_of_rowV hrB hgeA) rfl (Nat.le_refl _)) (Nat.le_refl _) (by simp) (fun k hk => .inr (by injection hk with hk; subst hk; exact Nat.le_refl _)) (.inr ⟨rfl, rfl⟩) hrC hgC)
      clear hrow hlen hvn hrC hgC hrB hbB hsB HHA HHB hgB
      go_wp2_with fail
      go_roundw
      case rel => exact ⟨n + 1, _, by omega, rfl, by have := HHC; rwa [upd_same] at this⟩
      case measure => show 6 - (n + 1) < 6 - n; omega
    · have hn : n = 6 := by omega
      have hge : (6 : Int) ≤ (n : Int) := by omega
      go_wp2_with fail
      have HT := Lib.hid Tied.new
      have HH2 : Hid (Held w w.heap.size N7 g 6 wr 0 L vs (fun _ => [zeroSec]) (Dk.new 6)) := by have := HH; rw [hn] at this; exact this
      clear hn hge
      clear HH
      go_loopw [9] (fun v W => ∃ (k : Nat) (L : List Nat) (vs : List Value) (ss : Nat → List Sec) (d : Dk), k ≤ m ∧ v = .int .i64 k ∧ Hid (Held w w.heap.size N7 g 6 W k L vs ss d) ∧ Hid (Tied d ss)) (fun v _ => m - (intOf v).toNat)
      case atStart => exact ⟨0, L, vs, _, _, Nat.zero_le _, rfl, HH2, HT⟩
      case round =>
        clear HH2 HT hn6 hlt
        obtain ⟨k, L, vs, ss, d, hkm, rfl, HH, HT⟩ := hrel
        by_cases hlt : k < m
        · obtain ⟨o, ho⟩ : ∃ o, l[k]? = some o := ⟨_, List.getElem?_eq_getElem (by rw [Hm.out]; omega)⟩
          obtain ⟨ba, off, rfl, hba, hro⟩ := HO.out.at_ ho
          have hlt' : (k : Int) < (m : Int) := by omega
          have hk0 : (0 : Int) ≤ (k : Int) := by omega
          have qo : wr.rangeAt ba (off + k * 4) o.cs := fun j v hj => (HH.out.bel.cell hba).trans (hro j v hj)
          have z0 : wr.cell? ⟨ba, off + k * 4, none⟩ = some (.int .i64 o.kind) := qo 0 _ rfl
          have hLb : ∀ j ∈ L, w.heap.size ≤ j := fun j hj => (HH.out.disk.lt hj).1
          have hbaL : ba ∉ L := fun h' => by have := hLb _ h'; omega
          have hsz : w.heap.size ≤ wr.heap.size := HH.out.hs
          have hxm := (HO.out.keeps o (List.mem_of_getElem? ho)).2.2
          by_cases h01 : o.kind = 0 ∨ o.kind = 1
          · by_cases hin : 0 ≤ o.at_ ∧ o.at_ < 6
            · obtain ⟨x, hx⟩ := Int.eq_ofNat_of_zero_le hin.1
              have hx6 : x < 6 := by omega
              have HW := Lib.hid (HT.out.write hx6 (fillSec o.b) HH.out.ok.at_)
              have HOk := Lib.hid (write_ok (x := (x : Int)) (s := fillSec o.b) HH.out.ok HH.out.steps HH.out.wait (by omega))
              clear hin HT
              rcases h01 with h0 | h0
              all_goals
                rw [h0] at z0
                go_wp2_with fail
                refine wp_region_held_drew (S := fun W => But L wr.drew.heap.size wr.drew W) (by kernel_rfl) (But.refl _ _ _) (fun hHeld => ?_)
                have HHd := Lib.hid HH.out.drew
                have qd : wr.drew.rangeAt ba (off + k * 4) o.cs := qo
                have hszd : w.heap.size ≤ wr.drew.heap.size := hsz
                have hbaX := hbaL
                generalize wr.drew = wd at *
                have S0 : But L wd.heap.size wd wd := But.refl _ _ _
                refine wpAnyH_take (i := 0) (oi := ⟨_, _, _, _, _, _⟩) (v := ?_) rfl (by kernel_rfl) (by kernel_rfl) (by kernel_rfl) (fun _ _ _ h => h) (Or.inl ⟨by rfl, ?_⟩) (by assumption) ?_
                rotate_left
                · intro W hSW; go_simp; try with_reducible rfl
                try simp only [Act.put, List.setIfInBounds_toArray, List.set_cons_zero, List.set_cons_succ]
                refine wpAnyH_take (i := 1) (oi := ⟨_, _, _, _, _, _⟩) (v := ?_) rfl (by kernel_rfl) (by kernel_rfl) (by kernel_rfl) (fun _ _ _ h => h) (Or.inl ⟨by rfl, ?_⟩) (by assumption) ?_
                rotate_left
                · intro W hSW; go_simp; try with_reducible rfl
                try simp only [Act.put, List.setIfInBounds_toArray, List.set_cons_zero, List.set_cons_succ]
                refine wpAnyH_take (i := 2) (oi := ⟨_, _, _, _, _, _⟩) (v := ?_) rfl (by kernel_rfl) (by kernel_rfl) (by kernel_rfl) (fun _ _ _ h => h) (Or.inl ⟨by rfl, ?_⟩) (by assumption) ?_
                rotate_left
                · intro W hSW; go_simp; try with_reducible rfl
                try simp only [Act.put, List.setIfInBounds_toArray, List.set_cons_zero, List.set_cons_succ]
                refine wpAnyH_take (i := 3) (oi := ⟨_, _, _, _, _, _⟩) (v := ?_) rfl (by kernel_rfl) (by kernel_rfl) (by kernel_rfl) (fun _ _ _ h => h) (Or.inl ⟨by rfl, ?_⟩) (by assumption) ?_
                rotate_left
                · intro W hSW; go_simp; try with_reducible rfl
                try simp only [Act.put, List.setIfInBounds_toArray, List.set_cons_zero, List.set_cons_succ]
                refine wpAnyH_take (i := 4) (oi := ⟨_, _, _, _, _, _⟩) (v := ?_) rfl (by kernel_rfl) (by kernel_rfl) (by kernel_rfl) (fun _ _ _ h => h) (Or.inl ⟨by rfl, ?_⟩) (by assumption) ?_
                rotate_left
                · intro W hSW; go_simp; try with_reducible rfl
                try simp only [Act.put, List.setIfInBounds_toArray, List.set_cons_zero, List.set_cons_succ]
                refine wpAnyH_take (i := 5) (oi := ⟨_, _, _, _, _, _⟩) (v := ?_) rfl (by kernel_rfl) (by kernel_rfl) (by kernel_rfl) (fun _ _ _ h => h) (Or.inl ⟨by rfl, ?_⟩) (by assumption) ?_
                rotate_left
                · intro W hSW; have kk := (World.cell?_of_block (hSW.block ba (by omega) hbaX)).trans (qd 1 _ rfl); (try rw [hx] at kk); go_simp; try with_reducible rfl
                try simp only [Act.put, List.setIfInBounds_toArray, List.set_cons_zero, List.set_cons_succ]
                refine wpAnyH_take (i := 6) (oi := ⟨_, _, _, _, _, _⟩) (v := ?_) rfl (by kernel_rfl) (by kernel_rfl) (by kernel_rfl) (fun _ _ _ h => h) (Or.inl ⟨by rfl, ?_⟩) (by assumption) ?_
                rotate_left
                · intro W hSW; go_simp; try with_reducible rfl
                try simp only [Act.put, List.setIfInBounds_toArray, List.set_cons_zero, List.set_cons_succ]
                refine wpAnyH_take (i := 7) (oi := ⟨_, _, _, _, _, _⟩) (v := ?_) rfl (by kernel_rfl) (by kernel_rfl) (by kernel_rfl) (fun _ _ _ h => h) (Or.inl ⟨by rfl, ?_⟩) (by assumption) ?_
                rotate_left
                · intro W hSW; go_simp; try with_reducible rfl
                try simp only [Act.put, List.setIfInBounds_toArray, List.set_cons_zero, List.set_cons_succ]
                refine wpAnyH_take (i := 8) (oi := ⟨_, _, _, _, _, _⟩) (v := ?_) rfl (by kernel_rfl) (by kernel_rfl) (by kernel_rfl) (fun _ _ _ h => h) (Or.inl ⟨by rfl, ?_⟩) (by assumption) ?_
                rotate_left
                · intro W hSW; go_simp; try with_reducible rfl
                try simp only [Act.put, List.setIfInBounds_toArray, List.set_cons_zero, List.set_cons_succ]
                refine wpAnyH_take (i := 9) (oi := ⟨_, _, _, _, _, _⟩) (v := ?_) rfl (by kernel_rfl) (by kernel_rfl) (by kernel_rfl) (fun _ _ _ h => h) (Or.inl ⟨by rfl, ?_⟩) (by assumption) ?_
                rotate_left
                · intro W hSW; go_simp; try with_reducible rfl
                try simp only [Act.put, List.setIfInBounds_toArray, List.set_cons_zero, List.set_cons_succ]
                refine wpAnyH_take (i := 10) (oi := ⟨_, _, _, _, _, _⟩) (v := ?_) rfl (by kernel_rfl) (by kernel_rfl) (by kernel_rfl) (fun _ _ _ h => h) (Or.inl ⟨by rfl, ?_⟩) (by assumption) ?_
                rotate_left
                · intro W hSW; have kk := (World.cell?_of_block (hSW.block ba (by omega) hbaX)).trans (qd 2 _ rfl); go_simp; try with_reducible rfl
                try simp only [Act.put, List.setIfInBounds_toArray, List.set_cons_zero, List.set_cons_succ]
                refine wpAnyH_ready (rs := [11]) (by kernel_rfl) (by simp) ?_
                refine AllReadyH.cons (o := ⟨_, _, _, _, _, _⟩) rfl (fun K hK => ?_) AllReadyH.nil
                go_simp
                refine (filled_any _ o.b).mono ?_
                rintro e wA ⟨rfl, hbA⟩
                have SA : But L wd.heap.size wd wA := But.of _ hbA
                have HHA := Lib.hid (HHd.out.below hbA)
                try simp only []
                refine hK.out _ _ (SA) (fun hHeld => ?_)
                clear hK K
                try simp only [Act.put, List.setIfInBounds_toArray, List.set_cons_zero, List.set_cons_succ]
                refine wpAnyH_ready (rs := [12]) (by kernel_rfl) (by simp) ?_
                refine AllReadyH.cons (o := ⟨_, _, _, _, _, _⟩) rfl (fun K hK => ?_) AllReadyH.nil
                go_simp
                refine (dwrite_any wA w.heap.size g L d (x : Int) (fillSec o.b) HHA.out.ok (by have := HHA.out.wait; omega) HHA.out.disk HHA.out.hs).mono ?_
                rintro e wB ⟨he, L', hDB, hbB, hLB⟩
                rw [HW.out.1] at he
                subst he
                have SB : But L wd.heap.size wd wB := SA.trans (hbB.less SA.size)
                try simp only []
                refine hK.out _ _ (SB) (fun hHeld => ?_)
                clear hK K
                try simp only [Act.put, List.setIfInBounds_toArray, List.set_cons_zero, List.set_cons_succ]
                refine wpAnyH_take (i := 13) (oi := ⟨_, _, _, _, _, _⟩) (v := ?_) rfl (by kernel_rfl) (by kernel_rfl) (by kernel_rfl) (fun _ _ _ h => h) (Or.inl ⟨by rfl, ?_⟩) (by assumption) ?_
                rotate_left
                · intro W hSW; (try dsimp only at hSW); go_simp; try with_reducible rfl
                try simp only [Act.put, List.setIfInBounds_toArray, List.set_cons_zero, List.set_cons_succ]
                refine wpAnyH_done (by kernel_rfl) ?_ _
                have HHB := Lib.hid (HHA.out.turn hDB hbB hLB (Nat.le_succ k) HOk.out.1 HOk.out.2.1 HOk.out.2.2.1)
                obtain ⟨v, hv⟩ : ∃ v, vs[x]? = some v := ⟨_, List.getElem?_eq_getElem (by rw [HHA.out.seen.len]; omega)⟩
                have HTl := Lib.hid ((HHA.out.seen.turn hbB hLB).tl x v hx6 hv)
                clear S0 SA SB hHeld HHd HHA hbA hDB hbB hLB HH qd qo z0 hbaX hbaL hLb hsz hszd
                go_wp2_with fail
                obtain ⟨gv, kv, cv, rfl, hgv, hgl, _, _, _⟩ := HTl.out.1.form
                have hN7 := HHB.out.seen.hb
                have hbaX : ba ∉ [N7, gv] := by simp; omega
                have HHd := Lib.hid HHB.out.drew
                have HTd : Hid (Tl wB.drew w.heap.size 43 (k + 1) (.slice (some ⟨gv, kv, none⟩) (ss x).length cv) (ss x)) := HTl.out.1.but (w' := wB.drew) (L := []) ⟨rfl, rfl, rfl, Nat.le_refl _, fun _ _ _ => rfl⟩ (fun j hj => ⟨(HTl.out.1.lt hj).2, by simp⟩)
                have qd : wB.drew.rangeAt ba (off + k * 4) o.cs := fun j v hj => (HHd.out.bel.cell hba).trans (hro j v hj)
                have hszd : w.heap.size ≤ wB.drew.heap.size := HHd.out.hs
                have hx6' : (x : Int) < 6 := by omega
                have hx0 : (0 : Int) ≤ (x : Int) := by omega
                have hvn : x < vs.length := by rw [HHd.out.seen.len]; exact hx6
                refine wp_region_held_drew (S := fun W => But [N7, gv] wB.drew.heap.size wB.drew W) (by kernel_rfl) (But.refl _ _ _) (fun hHeld => ?_)
                clear HHB HTl
                generalize wB.drew = wd at *
                have S0 : But [N7, gv] wd.heap.size wd wd := But.refl _ _ _
                have hc11 : wd.cell? ⟨N7, x, none⟩ = some (.slice (some ⟨gv, kv, none⟩) (ss x).length cv) := HHd.out.seen.row.cell hv
                refine wpAnyH_take (i := 0) (oi := ⟨_, _, _, _, _, _⟩) (v := ?_) rfl (by kernel_rfl) (by kernel_rfl) (by kernel_rfl) (fun _ _ _ h => h) (Or.inl ⟨by rfl, ?_⟩) (by assumption) ?_
                rotate_left
                · intro W hSW; go_simp; try with_reducible rfl
                try simp only [Act.put, List.setIfInBounds_toArray, List.set_cons_zero, List.set_cons_succ]
                refine wpAnyH_take (i := 1) (oi := ⟨_, _, _, _, _, _⟩) (v := ?_) rfl (by kernel_rfl) (by kernel_rfl) (by kernel_rfl) (fun _ _ _ h => h) (Or.inl ⟨by rfl, ?_⟩) (by assumption) ?_
                rotate_left
                · intro W hSW; go_simp; try with_reducible rfl
                try simp only [Act.put, List.setIfInBounds_toArray, List.set_cons_zero, List.set_cons_succ]
                refine wpAnyH_take (i := 2) (oi := ⟨_, _, _, _, _, _⟩) (v := ?_) rfl (by kernel_rfl) (by kernel_rfl) (by kernel_rfl) (fun _ _ _ h => h) (Or.inl ⟨by rfl, ?_⟩) (by assumption) ?_
                rotate_left
                · intro W hSW; go_simp; try with_reducible rfl
                try simp only [Act.put, List.setIfInBounds_toArray, List.set_cons_zero, List.set_cons_succ]
                refine wpAnyH_take (i := 3) (oi := ⟨_, _, _, _, _, _⟩) (v := ?_) rfl (by kernel_rfl) (by kernel_rfl) (by kernel_rfl) (fun _ _ _ h => h) (Or.inl ⟨by rfl, ?_⟩) (by assumption) ?_
                rotate_left
                · intro W hSW; go_simp; try with_reducible rfl
                try simp only [Act.put, List.setIfInBounds_toArray, List.set_cons_zero, List.set_cons_succ]
                refine wpAnyH_take (i := 4) (oi := ⟨_, _, _, _, _, _⟩) (v := ?_) rfl (by kernel_rfl) (by kernel_rfl) (by kernel_rfl) (fun _ _ _ h => h) (Or.inl ⟨by rfl, ?_⟩) (by assumption) ?_
                rotate_left
                · intro W hSW; have kk := (World.cell?_of_block (hSW.block ba (by omega) hbaX)).trans (qd 1 _ rfl); rw [hx] at kk; go_simp; try with_reducible rfl
                try simp only [Act.put, List.setIfInBounds_toArray, List.set_cons_zero, List.set_cons_succ]
                refine wpAnyH_take (i := 5) (oi := ⟨_, _, _, _, _, _⟩) (v := ?_) rfl (by kernel_rfl) (by kernel_rfl) (by kernel_rfl) (fun _ _ _ h => h) (Or.inl ⟨by rfl, ?_⟩) (by assumption) ?_
                rotate_left
                · intro W hSW; go_simp; try with_reducible rfl
                try simp only [Act.put, List.setIfInBounds_toArray, List.set_cons_zero, List.set_cons_succ]
                refine wpAnyH_take (i := 6) (oi := ⟨_, _, _, _, _, _⟩) (v := ?_) rfl (by kernel_rfl) (by kernel_rfl) (by kernel_rfl) (fun _ _ _ h => h) (Or.inl ⟨by rfl, ?_⟩) (by assumption) ?_
                rotate_left
                · intro W hSW; go_simp; try with_reducible rfl
                try simp only [Act.put, List.setIfInBounds_toArray, List.set_cons_zero, List.set_cons_succ]
                refine wpAnyH_take (i := 7) (oi := ⟨_, _, _, _, _, _⟩) (v := ?_) rfl (by kernel_rfl) (by kernel_rfl) (by kernel_rfl) (fun _ _ _ h => h) (Or.inl ⟨by rfl, ?_⟩) (by assumption) ?_
                rotate_left
                · intro W hSW; go_simp; try with_reducible rfl
                try simp only [Act.put, List.setIfInBounds_toArray, List.set_cons_zero, List.set_cons_succ]
                refine wpAnyH_take (i := 8) (oi := ⟨_, _, _, _, _, _⟩) (v := ?_) rfl (by kernel_rfl) (by kernel_rfl) (by kernel_rfl) (fun _ _ _ h => h) (Or.inl ⟨by rfl, ?_⟩) (by assumption) ?_
                rotate_left
                · intro W hSW; go_simp; try with_reducible rfl
                try simp only [Act.put, List.setIfInBounds_toArray, List.set_cons_zero, List.set_cons_succ]
                refine wpAnyH_take (i := 9) (oi := ⟨_, _, _, _, _, _⟩) (v := ?_) rfl (by kernel_rfl) (by kernel_rfl) (by kernel_rfl) (fun _ _ _ h => h) (Or.inl ⟨by rfl, ?_⟩) (by assumption) ?_
                rotate_left
                · intro W hSW; have kk := (World.cell?_of_block (hSW.block ba (by omega) hbaX)).trans (qd 1 _ rfl); rw [hx] at kk; go_simp; try with_reducible rfl
                try simp only [Act.put, List.setIfInBounds_toArray, List.set_cons_zero, List.set_cons_succ]
                refine wpAnyH_take (i := 10) (oi := ⟨_, _, _, _, _, _⟩) (v := ?_) rfl (by kernel_rfl) (by kernel_rfl) (by kernel_rfl) (fun _ _ _ h => h) (Or.inl ⟨by rfl, ?_⟩) (by assumption) ?_
                rotate_left
                · intro W hSW; go_simp; try with_reducible rfl
                try simp only [Act.put, List.setIfInBounds_toArray, List.set_cons_zero, List.set_cons_succ]
                refine wpAnyH_take (i := 12) (oi := ⟨_, _, _, _, _, _⟩) (v := ?_) rfl (by kernel_rfl) (by kernel_rfl) (by kernel_rfl) (fun _ _ _ h => h) (Or.inl ⟨by rfl, ?_⟩) (by assumption) ?_
                rotate_left
                · intro W hSW; go_simp; try with_reducible rfl
                try simp only [Act.put, List.setIfInBounds_toArray, List.set_cons_zero, List.set_cons_succ]
                refine wpAnyH_take (i := 13) (oi := ⟨_, _, _, _, _, _⟩) (v := ?_) rfl (by kernel_rfl) (by kernel_rfl) (by kernel_rfl) (fun _ _ _ h => h) (Or.inl ⟨by rfl, ?_⟩) (by assumption) ?_
                rotate_left
                · intro W hSW; go_simp; try with_reducible rfl
                try simp only [Act.put, List.setIfInBounds_toArray, List.set_cons_zero, List.set_cons_succ]
                refine wpAnyH_take (i := 14) (oi := ⟨_, _, _, _, _, _⟩) (v := ?_) rfl (by kernel_rfl) (by kernel_rfl) (by kernel_rfl) (fun _ _ _ h => h) (Or.inl ⟨by rfl, ?_⟩) (by assumption) ?_
                rotate_left
                · intro W hSW; go_simp; try with_reducible rfl
                try simp only [Act.put, List.setIfInBounds_toArray, List.set_cons_zero, List.set_cons_succ]
                refine wpAnyH_take (i := 15) (oi := ⟨_, _, _, _, _, _⟩) (v := ?_) rfl (by kernel_rfl) (by kernel_rfl) (by kernel_rfl) (fun _ _ _ h => h) (Or.inl ⟨by rfl, ?_⟩) (by assumption) ?_
                rotate_left
                · intro W hSW; go_simp; try with_reducible rfl
                try simp only [Act.put, List.setIfInBounds_toArray, List.set_cons_zero, List.set_cons_succ]
                refine wpAnyH_take (i := 16) (oi := ⟨_, _, _, _, _, _⟩) (v := ?_) rfl (by kernel_rfl) (by kernel_rfl) (by kernel_rfl) (fun _ _ _ h => h) (Or.inl ⟨by rfl, ?_⟩) (by assumption) ?_
                rotate_left
                · intro W hSW; have kk := (World.cell?_of_block (hSW.block ba (by omega) hbaX)).trans (qd 2 _ rfl); go_simp; try with_reducible rfl
                try simp only [Act.put, List.setIfInBounds_toArray, List.set_cons_zero, List.set_cons_succ]
                refine wpAnyH_ready (rs := [11, 17]) (by kernel_rfl) (by simp) ?_
                refine AllReadyH.cons (o := ⟨_, _, _, _, _, _⟩) rfl (fun K hK => ?_) (AllReadyH.cons (o := ⟨_, _, _, _, _, _⟩) rfl (fun K hK => ?_) AllReadyH.nil)
                · skip
                  skip
                  go_simp
                  refine hK.out _ _ (S0) (fun hHeld => ?_)
                  clear hK K
                  try simp only [Act.put, List.setIfInBounds_toArray, List.set_cons_zero, List.set_cons_succ]
                  refine wpAnyH_ready (rs := [17]) (by kernel_rfl) (by simp) ?_
                  refine AllReadyH.cons (o := ⟨_, _, _, _, _, _⟩) rfl (fun K hK => ?_) AllReadyH.nil
                  go_simp
                  refine (filled_any _ o.b).mono ?_
                  rintro e wA ⟨rfl, hbA⟩
                  have SA : But [N7, gv] wd.heap.size wd wA := But.of _ hbA
                  try simp only []
                  refine hK.out _ _ SA (fun hHeld => ?_)
                  clear hK K
                  try simp only [Act.put, List.setIfInBounds_toArray, List.set_cons_zero, List.set_cons_succ]
                  refine wpAnyH_ready (rs := [18]) (by kernel_rfl) (by simp) ?_
                  refine AllReadyH.cons (o := ⟨_, _, _, _, _, _⟩) rfl (fun K hK => ?_) AllReadyH.nil
                  refine ite_yes rfl ?_
                  refine wp_buildSlice_one 29 43 (.tmp 88) rfl (fillSec o.b).cs rfl Try.underlying29 Try.infoS (Sec.cs_length _) (by decide) (by decide) ?_
                  have hrC := RowV.new wA 43 (fillSec o.b).cs
                  have hbC : Below wA.heap.size wA (wA.alloc (.cells (fillSec o.b).cs.toArray 43)) := (Below.refl _ _).alloc (Nat.le_refl _) _
                  generalize wA.alloc (.cells (fillSec o.b).cs.toArray 43) = wC at *
                  have hbdC : Below wd.heap.size wd wC := hbA.trans (hbC.mono hbA.size)
                  have SC : But [N7, gv] wd.heap.size wd wC := But.of _ hbdC
                  refine hK.out _ _ SC (fun hHeld => ?_)
                  clear hK K
                  try simp only [Act.put, List.setIfInBounds_toArray, List.set_cons_zero, List.set_cons_succ]
                  have HHC := Lib.hid (HHd.out.below hbdC)
                  have hTC := HTd.out.but (But.of [] hbdC) (fun j hj => ⟨(HTd.out.lt hj).2, by simp⟩)
                  refine wpAnyH_ready (rs := [19]) (by kernel_rfl) (by simp) ?_
                  refine AllReadyH.cons (o := ⟨_, _, _, _, _, _⟩) rfl (fun K hK => ?_) AllReadyH.nil
                  refine ite_yes rfl ?_
                  refine wp_append_tl (.tmp 82) (.tmp 89) 29 rfl w.heap.size 43 Try.underlying29 Try.infoS (by rw [show zeroSec.val.cells = zeroSec.cs.toArray from rfl, List.size_toArray, Sec.cs_length]) rfl hTC (fillSec o.b) ⟨wA.heap.size, 0, none⟩ 1 rfl (fun j u hj => by rw [Addr.add_lit, Nat.zero_add]; exact hrC.cell hj) (by omega) HHC.out.hs ?_
                  intro vX wD hTD hgD hloc
                  have hrD := HHC.out.seen.row.keep hgD (HHC.out.seen.far hv)
                  obtain ⟨gx, kx, cx, rfl, _, _, _, _, _⟩ := hTD.form
                  have SD : But [N7, gv] wd.heap.size wd wD := SC.grown hgD (by intro j e; have e' : gv = j := Option.some.inj e; left; simp [e']) SC.size
                  refine hK.out _ _ SD (fun hHeld => ?_)
                  clear hK K
                  try simp only [Act.put, List.setIfInBounds_toArray, List.set_cons_zero, List.set_cons_succ]
                  refine wpAnyH_take (i := 20) (oi := ⟨_, _, _, _, _, _⟩) (v := ?_) rfl (by kernel_rfl) (by kernel_rfl) (by kernel_rfl) (fun _ _ _ h => h) (Or.inl ⟨by rfl, ?_⟩) (by assumption) ?_
                  rotate_left
                  · intro W hSW; go_simp; try with_reducible rfl
                  try simp only [Act.put, List.setIfInBounds_toArray, List.set_cons_zero, List.set_cons_succ]
                  refine wpAnyH_ready (rs := [21]) (by kernel_rfl) (by simp) ?_
                  refine AllReadyH.cons (o := ⟨_, _, _, _, _, _⟩) rfl (fun K hK => ?_) AllReadyH.nil
                  refine ite_yes rfl ?_
                  refine wp_store_slot 29 (.tmp 91) (.tmp 90) rfl N7 x rfl _ rfl rfl 42 vs hrD hvn Try.sizeSl ?_
                  intro wE hrE hgE hsE
                  have SE : But [N7, gv] wd.heap.size wd wE := SD.grown hgE (by intro j e; injection e with e; left; simp [e]) SD.size
                  refine hK.out _ _ SE (fun hHeld => ?_)
                  clear hK K
                  try simp only [Act.put, List.setIfInBounds_toArray, List.set_cons_zero, List.set_cons_succ]
                  refine wpAnyH_done (by kernel_rfl) ?_ _
                  have HHE := Lib.hid (HHC.out.put (k' := k + 1) hv hgD hTD (Nat.le_refl _) (by simp) (fun j hj => by
                    rcases hloc with h | h
                    · exact .inl (h ▸ hj)
                    · right; rw [h] at hj; injection hj with hj; omega) (.inl ⟨rfl, hx6⟩) hrE hgE)
                  clear SE SD SC S0 hrE hgE hsE hrD hgD hloc hTD hTC hrC hbC hbdC HHC HHd HTd hHeld hbA SA
                  go_wp2_with fail
                  go_roundw
                  case rel => first | exact ⟨k + 1, by omega, by omega, L', _, _, _, HHE, HW.out.2⟩ | exact ⟨k + 1, L', _, _, _, by omega, rfl, HHE, HW.out.2⟩
                  case measure => show m - (k + 1) < m - k; omega
                · skip
                  go_simp
                  refine (filled_any _ o.b).mono ?_
                  rintro e wA ⟨rfl, hbA⟩
                  have SA : But [N7, gv] wd.heap.size wd wA := But.of _ hbA
                  try simp only []
                  refine hK.out _ _ SA (fun hHeld => ?_)
                  clear hK K
                  try simp only [Act.put, List.setIfInBounds_toArray, List.set_cons_zero, List.set_cons_succ]
                  refine wpAnyH_ready (rs := [11, 18]) (by kernel_rfl) (by simp) ?_
                  refine AllReadyH.cons (o := ⟨_, _, _, _, _, _⟩) rfl (fun K hK => ?_) (AllReadyH.cons (o := ⟨_, _, _, _, _, _⟩) rfl (fun K hK => ?_) AllReadyH.nil)
                  · skip
                    have kk : wA.cell? ⟨N7, x, none⟩ = some (.slice (some ⟨gv, kv, none⟩) (ss x).length cv) := (hbA.cell (World.block_lt_of_cell? _ _ hc11)).trans hc11
                    go_simp
                    refine hK.out _ _ (SA) (fun hHeld => ?_)
                    clear hK K
                    try simp only [Act.put, List.setIfInBounds_toArray, List.set_cons_zero, List.set_cons_succ]
                    refine wpAnyH_ready (rs := [18]) (by kernel_rfl) (by simp) ?_
                    refine AllReadyH.cons (o := ⟨_, _, _, _, _, _⟩) rfl (fun K hK => ?_) AllReadyH.nil
                    refine ite_yes rfl ?_
                    refine wp_buildSlice_one 29 43 (.tmp 88) rfl (fillSec o.b).cs rfl Try.underlying29 Try.infoS (Sec.cs_length _) (by decide) (by decide) ?_
                    have hrC := RowV.new wA 43 (fillSec o.b).cs
                    have hbC : Below wA.heap.size wA (wA.alloc (.cells (fillSec o.b).cs.toArray 43)) := (Below.refl _ _).alloc (Nat.le_refl _) _
                    generalize wA.alloc (.cells (fillSec o.b).cs.toArray 43) = wC at *
                    have hbdC : Below wd.heap.size wd wC := hbA.trans (hbC.mono hbA.size)
                    have SC : But [N7, gv] wd.heap.size wd wC := But.of _ hbdC
                    refine hK.out _ _ SC (fun hHeld => ?_)
                    clear hK K
                    try simp only [Act.put, List.setIfInBounds_toArray, List.set_cons_zero, List.set_cons_succ]
                    have HHC := Lib.hid (HHd.out.below hbdC)
                    have hTC := HTd.out.but (But.of [] hbdC) (fun j hj => ⟨(HTd.out.lt hj).2, by simp⟩)
                    refine wpAnyH_ready (rs := [19]) (by kernel_rfl) (by simp) ?_
                    refine AllReadyH.cons (o := ⟨_, _, _, _, _, _⟩) rfl (fun K hK => ?_) AllReadyH.nil
                    refine ite_yes rfl ?_
                    refine wp_append_tl (.tmp 82) (.tmp 89) 29 rfl w.heap.size 43 Try.underlying29 Try.infoS (by rw [show zeroSec.val.cells = zeroSec.cs.toArray from rfl, List.size_toArray, Sec.cs_length]) rfl hTC (fillSec o.b) ⟨wA.heap.size, 0, none⟩ 1 rfl (fun j u hj => by rw [Addr.add_lit, Nat.zero_add]; exact hrC.cell hj) (by omega) HHC.out.hs ?_
                    intro vX wD hTD hgD hloc
                    have hrD := HHC.out.seen.row.keep hgD (HHC.out.seen.far hv)
                    obtain ⟨gx, kx, cx, rfl, _, _, _, _, _⟩ := hTD.form
                    have SD : But [N7, gv] wd.heap.size wd wD := SC.grown hgD (by intro j e; have e' : gv = j := Option.some.inj e; left; simp [e']) SC.size
                    refine hK.out _ _ SD (fun hHeld => ?_)
                    clear hK K
                    try simp only [Act.put, List.setIfInBounds_toArray, List.set_cons_zero, List.set_cons_succ]
                    refine wpAnyH_take (i := 20) (oi := ⟨_, _, _, _, _, _⟩) (v := ?_) rfl (by kernel_rfl) (by kernel_rfl) (by kernel_rfl) (fun _ _ _ h => h) (Or.inl ⟨by rfl, ?_⟩) (by assumption) ?_
                    rotate_left
                    · intro W hSW; go_simp; try with_reducible rfl
                    try simp only [Act.put, List.setIfInBounds_toArray, List.set_cons_zero, List.set_cons_succ]
                    refine wpAnyH_ready (rs := [21]) (by kernel_rfl) (by simp) ?_
                    refine AllReadyH.cons (o := ⟨_, _, _, _, _, _⟩) rfl (fun K hK => ?_) AllReadyH.nil
                    refine ite_yes rfl ?_
                    refine wp_store_slot 29 (.tmp 91) (.tmp 90) rfl N7 x rfl _ rfl rfl 42 vs hrD hvn Try.sizeSl ?_
                    intro wE hrE hgE hsE
                    have SE : But [N7, gv] wd.heap.size wd wE := SD.grown hgE (by intro j e; injection e with e; left; simp [e]) SD.size
                    refine hK.out _ _ SE (fun hHeld => ?_)
                    clear hK K
                    try simp only [Act.put, List.setIfInBounds_toArray, List.set_cons_zero, List.set_cons_succ]
                    refine wpAnyH_done (by kernel_rfl) ?_ _
                    have HHE := Lib.hid (HHC.out.put (k' := k + 1) hv hgD hTD (Nat.le_refl _) (by simp) (fun j hj => by
                      rcases hloc with h | h
                      · exact .inl (h ▸ hj)
                      · right; rw [h] at hj; injection hj with hj; omega) (.inl ⟨rfl, hx6⟩) hrE hgE)
                    clear SE SD SC S0 hrE hgE hsE hrD hgD hloc hTD hTC hrC hbC hbdC HHC HHd HTd hHeld hbA SA
                    go_wp2_with fail
                    go_roundw
                    case rel => first | exact ⟨k + 1, by omega, by omega, L', _, _, _, HHE, HW.out.2⟩ | exact ⟨k + 1, L', _, _, _, by omega, rfl, HHE, HW.out.2⟩
                    case measure => show m - (k + 1) < m - k; omega
                  · skip
                    refine ite_yes rfl ?_
                    refine wp_buildSlice_one 29 43 (.tmp 88) rfl (fillSec o.b).cs rfl Try.underlying29 Try.infoS (Sec.cs_length _) (by decide) (by decide) ?_
                    have hrC := RowV.new wA 43 (fillSec o.b).cs
                    have hbC : Below wA.heap.size wA (wA.alloc (.cells (fillSec o.b).cs.toArray 43)) := (Below.refl _ _).alloc (Nat.le_refl _) _
                    generalize wA.alloc (.cells (fillSec o.b).cs.toArray 43) = wC at *
                    have hbdC : Below wd.heap.size wd wC := hbA.trans (hbC.mono hbA.size)
                    have SC : But [N7, gv] wd.heap.size wd wC := But.of _ hbdC
                    refine hK.out _ _ SC (fun hHeld => ?_)
                    clear hK K
                    try simp only [Act.put, List.setIfInBounds_toArray, List.set_cons_zero, List.set_cons_succ]
                    refine wpAnyH_ready (rs := [11]) (by kernel_rfl) (by simp) ?_
                    refine AllReadyH.cons (o := ⟨_, _, _, _, _, _⟩) rfl (fun K hK => ?_) AllReadyH.nil
                    have kk : wC.cell? ⟨N7, x, none⟩ = some (.slice (some ⟨gv, kv, none⟩) (ss x).length cv) := (hbdC.cell (World.block_lt_of_cell? _ _ hc11)).trans hc11
                    go_simp
                    refine hK.out _ _ (SC) (fun hHeld => ?_)
                    clear hK K
                    try simp only [Act.put, List.setIfInBounds_toArray, List.set_cons_zero, List.set_cons_succ]
                    have HHC := Lib.hid (HHd.out.below hbdC)
                    have hTC := HTd.out.but (But.of [] hbdC) (fun j hj => ⟨(HTd.out.lt hj).2, by simp⟩)
                    refine wpAnyH_ready (rs := [19]) (by kernel_rfl) (by simp) ?_
                    refine AllReadyH.cons (o := ⟨_, _, _, _, _, _⟩) rfl (fun K hK => ?_) AllReadyH.nil
                    refine ite_yes rfl ?_
                    refine wp_append_tl (.tmp 82) (.tmp 89) 29 rfl w.heap.size 43 Try.underlying29 Try.infoS (by rw [show zeroSec.val.cells = zeroSec.cs.toArray from rfl, List.size_toArray, Sec.cs_length]) rfl hTC (fillSec o.b) ⟨wA.heap.size, 0, none⟩ 1 rfl (fun j u hj => by rw [Addr.add_lit, Nat.zero_add]; exact hrC.cell hj) (by omega) HHC.out.hs ?_
                    intro vX wD hTD hgD hloc
                    have hrD := HHC.out.seen.row.keep hgD (HHC.out.seen.far hv)
                    obtain ⟨gx, kx, cx, rfl, _, _, _, _, _⟩ := hTD.form
                    have SD : But [N7, gv] wd.heap.size wd wD := SC.grown hgD (by intro j e; have e' : gv = j := Option.some.inj e; left; simp [e']) SC.size
                    refine hK.out _ _ SD (fun hHeld => ?_)
                    clear hK K
                    try simp only [Act.put, List.setIfInBounds_toArray, List.set_cons_zero, List.set_cons_succ]
                    refine wpAnyH_take (i := 20) (oi := ⟨_, _, _, _, _, _⟩) (v := ?_) rfl (by kernel_rfl) (by kernel_rfl) (by kernel_rfl) (fun _ _ _ h => h) (Or.inl ⟨by rfl, ?_⟩) (by assumption) ?_
                    rotate_left
                    · intro W hSW; go_simp; try with_reducible rfl
                    try simp only [Act.put, List.setIfInBounds_toArray, List.set_cons_zero, List.set_cons_succ]
                    refine wpAnyH_ready (rs := [21]) (by kernel_rfl) (by simp) ?_
                    refine AllReadyH.cons (o := ⟨_, _, _, _, _, _⟩) rfl (fun K hK => ?_) AllReadyH.nil
                    refine ite_yes rfl ?_
                    refine wp_store_slot 29 (.tmp 91) (.tmp 90) rfl N7 x rfl _ rfl rfl 42 vs hrD hvn Try.sizeSl ?_
                    intro wE hrE hgE hsE
                    have SE : But [N7, gv] wd.heap.size wd wE := SD.grown hgE (by intro j e; injection e with e; left; simp [e]) SD.size
                    refine hK.out _ _ SE (fun hHeld => ?_)
                    clear hK K
                    try simp only [Act.put, List.setIfInBounds_toArray, List.set_cons_zero, List.set_cons_succ]
                    refine wpAnyH_done (by kernel_rfl) ?_ _
                    have HHE := Lib.hid (HHC.out.put (k' := k + 1) hv hgD hTD (Nat.le_refl _) (by simp) (fun j hj => by
                      rcases hloc with h | h
                      · exact .inl (h ▸ hj)
                      · right; rw [h] at hj; injection hj with hj; omega) (.inl ⟨rfl, hx6⟩) hrE hgE)
                    clear SE SD SC S0 hrE hgE hsE hrD hgD hloc hTD hTC hrC hbC hbdC HHC HHd HTd hHeld hbA SA
                    go_wp2_with fail
                    go_roundw
                    case rel => first | exact ⟨k + 1, by omega, by omega, L', _, _, _, HHE, HW.out.2⟩ | exact ⟨k + 1, L', _, _, _, by omega, rfl, HHE, HW.out.2⟩
                    case measure => show m - (k + 1) < m - k; omega
            · have HW := Lib.hid (HT.out.bad hin (fillSec o.b))
              clear hin
              rcases h01 with h0 | h0
              all_goals
                rw [h0] at z0
                go_wp2_with fail
                refine wp_region_held_drew (S := fun W => But L wr.drew.heap.size wr.drew W) (by kernel_rfl) (But.refl _ _ _) (fun hHeld => ?_)
                have HHd := Lib.hid HH.out.drew
                have qd : wr.drew.rangeAt ba (off + k * 4) o.cs := qo
                have hszd : w.heap.size ≤ wr.drew.heap.size := hsz
                have hbaX := hbaL
                generalize wr.drew = wd at *
                have S0 : But L wd.heap.size wd wd := But.refl _ _ _
                refine wpAnyH_take (i := 0) (oi := ⟨_, _, _, _, _, _⟩) (v := ?_) rfl (by kernel_rfl) (by kernel_rfl) (by kernel_rfl) (fun _ _ _ h => h) (Or.inl ⟨by rfl, ?_⟩) (by assumption) ?_
                rotate_left
                · intro W hSW; go_simp; try with_reducible rfl
                try simp only [Act.put, List.setIfInBounds_toArray, List.set_cons_zero, List.set_cons_succ]
                refine wpAnyH_take (i := 1) (oi := ⟨_, _, _, _, _, _⟩) (v := ?_) rfl (by kernel_rfl) (by kernel_rfl) (by kernel_rfl) (fun _ _ _ h => h) (Or.inl ⟨by rfl, ?_⟩) (by assumption) ?_
                rotate_left
                · intro W hSW; go_simp; try with_reducible rfl
                try simp only [Act.put, List.setIfInBounds_toArray, List.set_cons_zero, List.set_cons_succ]
                refine wpAnyH_take (i := 2) (oi := ⟨_, _, _, _, _, _⟩) (v := ?_) rfl (by kernel_rfl) (by kernel_rfl) (by kernel_rfl) (fun _ _ _ h => h) (Or.inl ⟨by rfl, ?_⟩) (by assumption) ?_
                rotate_left
                · intro W hSW; go_simp; try with_reducible rfl
                try simp only [Act.put, List.setIfInBounds_toArray, List.set_cons_zero, List.set_cons_succ]
                refine wpAnyH_take (i := 3) (oi := ⟨_, _, _, _, _, _⟩) (v := ?_) rfl (by kernel_rfl) (by kernel_rfl) (by kernel_rfl) (fun _ _ _ h => h) (Or.inl ⟨by rfl, ?_⟩) (by assumption) ?_
                rotate_left
                · intro W hSW; go_simp; try with_reducible rfl
                try simp only [Act.put, List.setIfInBounds_toArray, List.set_cons_zero, List.set_cons_succ]
                refine wpAnyH_take (i := 4) (oi := ⟨_, _, _, _, _, _⟩) (v := ?_) rfl (by kernel_rfl) (by kernel_rfl) (by kernel_rfl) (fun _ _ _ h => h) (Or.inl ⟨by rfl, ?_⟩) (by assumption) ?_
                rotate_left
                · intro W hSW; go_simp; try with_reducible rfl
                try simp only [Act.put, List.setIfInBounds_toArray, List.set_cons_zero, List.set_cons_succ]
                refine wpAnyH_take (i := 5) (oi := ⟨_, _, _, _, _, _⟩) (v := ?_) rfl (by kernel_rfl) (by kernel_rfl) (by kernel_rfl) (fun _ _ _ h => h) (Or.inl ⟨by rfl, ?_⟩) (by assumption) ?_
                rotate_left
                · intro W hSW; have kk := (World.cell?_of_block (hSW.block ba (by omega) hbaX)).trans (qd 1 _ rfl); go_simp; try with_reducible rfl
                try simp only [Act.put, List.setIfInBounds_toArray, List.set_cons_zero, List.set_cons_succ]
                refine wpAnyH_take (i := 6) (oi := ⟨_, _, _, _, _, _⟩) (v := ?_) rfl (by kernel_rfl) (by kernel_rfl) (by kernel_rfl) (fun _ _ _ h => h) (Or.inl ⟨by rfl, ?_⟩) (by assumption) ?_
                rotate_left
                · intro W hSW; go_simp; try with_reducible rfl
                try simp only [Act.put, List.setIfInBounds_toArray, List.set_cons_zero, List.set_cons_succ]
                refine wpAnyH_take (i := 7) (oi := ⟨_, _, _, _, _, _⟩) (v := ?_) rfl (by kernel_rfl) (by kernel_rfl) (by kernel_rfl) (fun _ _ _ h => h) (Or.inl ⟨by rfl, ?_⟩) (by assumption) ?_
                rotate_left
                · intro W hSW; go_simp; try with_reducible rfl
                try simp only [Act.put, List.setIfInBounds_toArray, List.set_cons_zero, List.set_cons_succ]
                refine wpAnyH_take (i := 8) (oi := ⟨_, _, _, _, _, _⟩) (v := ?_) rfl (by kernel_rfl) (by kernel_rfl) (by kernel_rfl) (fun _ _ _ h => h) (Or.inl ⟨by rfl, ?_⟩) (by assumption) ?_
                rotate_left
                · intro W hSW; go_simp; try with_reducible rfl
                try simp only [Act.put, List.setIfInBounds_toArray, List.set_cons_zero, List.set_cons_succ]
                refine wpAnyH_take (i := 9) (oi := ⟨_, _, _, _, _, _⟩) (v := ?_) rfl (by kernel_rfl) (by kernel_rfl) (by kernel_rfl) (fun _ _ _ h => h) (Or.inl ⟨by rfl, ?_⟩) (by assumption) ?_
                rotate_left
                · intro W hSW; go_simp; try with_reducible rfl
                try simp only [Act.put, List.setIfInBounds_toArray, List.set_cons_zero, List.set_cons_succ]
                refine wpAnyH_take (i := 10) (oi := ⟨_, _, _, _, _, _⟩) (v := ?_) rfl (by kernel_rfl) (by kernel_rfl) (by kernel_rfl) (fun _ _ _ h => h) (Or.inl ⟨by rfl, ?_⟩) (by assumption) ?_
                rotate_left
                · intro W hSW; have kk := (World.cell?_of_block (hSW.block ba (by omega) hbaX)).trans (qd 2 _ rfl); go_simp; try with_reducible rfl
                try simp only [Act.put, List.setIfInBounds_toArray, List.set_cons_zero, List.set_cons_succ]
                refine wpAnyH_ready (rs := [11]) (by kernel_rfl) (by simp) ?_
                refine AllReadyH.cons (o := ⟨_, _, _, _, _, _⟩) rfl (fun K hK => ?_) AllReadyH.nil
                go_simp
                refine (filled_any _ o.b).mono ?_
                rintro e wA ⟨rfl, hbA⟩
                have SA : But L wd.heap.size wd wA := But.of _ hbA
                have HHA := Lib.hid (HHd.out.below hbA)
                try simp only []
                refine hK.out _ _ (SA) (fun hHeld => ?_)
                clear hK K
                try simp only [Act.put, List.setIfInBounds_toArray, List.set_cons_zero, List.set_cons_succ]
                refine wpAnyH_ready (rs := [12]) (by kernel_rfl) (by simp) ?_
                refine AllReadyH.cons (o := ⟨_, _, _, _, _, _⟩) rfl (fun K hK => ?_) AllReadyH.nil
                go_simp
                refine (dwrite_any wA w.heap.size g L d o.at_ (fillSec o.b) HHA.out.ok (by have := HHA.out.wait; omega) HHA.out.disk HHA.out.hs).mono ?_
                rintro e wB ⟨he, L', hDB, hbB, hLB⟩
                rw [HW.out] at he hDB
                subst he
                have SB : But L wd.heap.size wd wB := SA.trans (hbB.less SA.size)
                try simp only []
                refine hK.out _ _ (SB) (fun hHeld => ?_)
                clear hK K
                try simp only [Act.put, List.setIfInBounds_toArray, List.set_cons_zero, List.set_cons_succ]
                refine wpAnyH_take (i := 13) (oi := ⟨_, _, _, _, _, _⟩) (v := ?_) rfl (by kernel_rfl) (by kernel_rfl) (by kernel_rfl) (fun _ _ _ h => h) (Or.inl ⟨by rfl, ?_⟩) (by assumption) ?_
                rotate_left
                · intro W hSW; (try dsimp only at hSW); go_simp; try with_reducible rfl
                try simp only [Act.put, List.setIfInBounds_toArray, List.set_cons_zero, List.set_cons_succ]
                refine wpAnyH_done (by kernel_rfl) ?_ _
                have HHB := Lib.hid (HHA.out.turn (d' := d) hDB hbB hLB (Nat.le_succ k) HHA.out.ok (by have := HHA.out.steps; omega) (by have := HHA.out.wait; omega))
                clear S0 SA SB hHeld HHd HHA hbA hDB hbB hLB HH qd qo z0 hbaX hbaL hLb hsz hszd
                go_wp2_with fail
                go_roundw
                case rel => first | exact ⟨k + 1, L', vs, ss, d, by omega, rfl, HHB, HT⟩ | exact ⟨k + 1, by omega, by omega, L', vs, ss, d, HHB, HT⟩
                case measure => show m - (k + 1) < m - k; omega
          · by_cases h3 : o.kind = 3
            · rw [h3] at z0
              have hfl := HT.out.flush (ss' := fun k => (ss k).drop ((ss k).length - 1)) (fun _ _ => rfl)
              have HTF := Lib.hid hfl.2
              have hOk := flush_ok HH.out.ok HH.out.steps HH.out.wait (by omega)
              go_wp2_with fail
              refine (dflush_any _ w.heap.size g L d HH.out.ok HH.out.disk).mono ?_
              rintro e wF ⟨he, L', hDF, hbF, hLF⟩
              rw [hfl.1] at he
              subst he
              have HHF := Lib.hid (HH.out.turn hDF hbF hLF (Nat.le_succ k) hOk.1 hOk.2.1 hOk.2.2.1)
              generalize d.flush.1 = d' at *
              clear hfl hOk hDF hbF hLF HH HT z0 qo hro hLb hbaL hsz
              go_wp2_with fail
              go_loopw [10] (fun v W => ∃ (j : Nat) (vs : List Value) (ss' : Nat → List Sec), j ≤ 6 ∧ v = .int .i64 j ∧ Hid (Held w w.heap.size N7 g 6 W (k + 1) L' vs ss' d') ∧ Hid (∀ i, ss' i = if i < j then (ss i).drop ((ss i).length - 1) else ss i)) (fun v _ => 6 - (intOf v).toNat)
              case atStart => exact ⟨0, vs, ss, by omega, rfl, HHF, fun i => by simp⟩
              case round =>
                clear HHF
                obtain ⟨j, vs, ss', hj6, rfl, HH, HS⟩ := hrel
                by_cases hlt3 : j < 6
                · obtain ⟨v, hv⟩ : ∃ v, vs[j]? = some v := ⟨_, List.getElem?_eq_getElem (by rw [HH.out.seen.len]; omega)⟩
                  have hTl := HH.out.seen.tl j v hlt3 hv
                  obtain ⟨gv, kv, cv, rfl, hgv, hgl, hcl, hcm, _⟩ := hTl.1.form
                  obtain ⟨p, hp⟩ : ∃ p, (ss' j).length = p + 1 := ⟨(ss' j).length - 1, by have := List.length_pos_iff.2 hTl.2; omega⟩
                  have HTl := Lib.hid hTl
                  rw [hp] at hv hcl
                  have hc3 : wr.drew.cell? ⟨N7, j, none⟩ = some (.slice (some ⟨gv, kv, none⟩) (p + 1) cv) := HH.out.drew.seen.row.cell hv
                  have hj6' : (j : Int) < 6 := by omega
                  have hj0 : (0 : Int) ≤ (j : Int) := by omega
                  have hvn : j < vs.length := by rw [HH.out.seen.len]; exact hlt3
                  have hrow := HH.out.drew.seen.row
                  have hp80 : p ≤ 90 := by
                    obtain ⟨_, _, pre, _, h2, _⟩ := hTl.1
                    omega
                  have hwp : IntKind.i64.wrap (p : Int) = (p : Int) := IntWalk.i64_in _ (by omega)
                  have hp0 : (0 : Int) ≤ (p : Int) := by omega
                  have hpl : (p : Int) ≤ (p : Int) + 1 := by omega
                  have hcp : ¬ cv = p := by omega
                  have hpp : p + 1 - p = 1 := by omega
                  have Hcut : Hid (Tl wr.drew w.heap.size 43 (k + 1 + 1) (.slice (some ⟨gv, kv + p * 256, none⟩) 1 (cv - p)) ((ss' j).drop p)) := by
                    have h5 := hTl.1.cut p (by omega)
                    rw [hp, hpp] at h5
                    exact h5.but (w' := wr.drew) (L := []) ⟨rfl, rfl, rfl, Nat.le_refl _, fun _ _ _ => rfl⟩ (fun i hi => ⟨(h5.lt hi).2, by simp⟩)
                  have HHd := Lib.hid HH.out.drew
                  have Hp := Lib.hid hp
                  clear hTl hp
                  go_wp2_with fail
                  refine wp_region_still_tail 11 (by kernel_rfl) (by kernel_rfl) ?_
                  simp only [List.take_succ_cons, List.take_zero, List.drop_succ_cons, List.drop_zero]
                  iterate 11 still_step
                  refine wpStill_nil ?_
                  change wpList _ _ _ _ _ wr.drew
                  generalize wr.drew = wd at *
                  go_wp2_with ((with_reducible refine at_store 29 ?_); refine wpList_store_slot rfl 29 _ _ rfl N7 j rfl _ rfl rfl 42 vs hrow hvn Try.sizeSl ?_)
                  intro wS hrS hgS hsS
                  have hnn : (ss' j).drop p ≠ [] := by intro h; have := congrArg List.length h; rw [List.length_drop, Hp.out] at this; simp at this
                  have HHS := Lib.hid (HHd.out.put (k' := k + 1) hv (World.grownBy.refl _ _) Hcut.out (Nat.le_refl _) hnn (fun i hi => .inl hi) (.inl ⟨rfl, hlt3⟩) hrS hgS)
                  have HSS : Hid (∀ i, upd ss' j ((ss' j).drop p) i = if i < j + 1 then (ss i).drop ((ss i).length - 1) else ss i) := fun i => by
                    unfold upd
                    by_cases e : i = j
                    · subst e
                      have h6 := HS.out i
                      rw [if_neg (by omega)] at h6
                      rw [if_pos rfl, if_pos (by omega), ← h6, Hp.out]
                      rfl
                    · rw [if_neg e, HS.out i]
                      by_cases e2 : i < j
                      · rw [if_pos e2, if_pos (by omega)]
                      · rw [if_neg e2, if_neg (by omega)]
                  clear hrow hc3 hwp hp0 hpl hcp hpp hrS hgS hsS Hcut HHd hnn HS HH HTl
                  go_wp2_with fail
                  go_roundw
                  case rel => first | exact ⟨j + 1, _, _, by omega, rfl, HHS, HSS⟩
                  case measure => show 6 - (j + 1) < 6 - j; omega
                · have hj : j = 6 := by omega
                  have hge : (6 : Int) ≤ (j : Int) := by omega
                  go_wp2_with fail
                  have HTG : Hid (Tied d' ss') := HTF.out.congr HH.out.ok fun i hi => by rw [HS.out i, if_pos (by omega)]
                  go_roundw
                  case rel => first | exact ⟨k + 1, L', vs, ss', d', by omega, rfl, HH, HTG⟩ | exact ⟨k + 1, by omega, by omega, L', vs, ss', d', HH, HTG⟩
                  case measure => show m - (k + 1) < m - k; omega
            · go_wp2_with fail
              go_roundw
              case rel => first | exact ⟨k + 1, L, vs, ss, d, by omega, rfl, Lib.hid (HH.out.turn HH.out.disk (But.refl _ _ _) (fun j hj => .inl hj) (Nat.le_succ k) HH.out.ok (by have := HH.out.steps; omega) (by have := HH.out.wait; omega)), HT⟩
              case measure => show m - (k + 1) < m - k; omega
        · obtain rfl : m = k := by omega
          have hOkc := crash_ok (keep := keep) HH.out.ok
          have Hc6 := Lib.hid (HT.out.crash keep)
          have qb : Bools wr L (.slice B q c') keep := by
            refine ⟨B, c', by rw [Hq.out], by rw [Hq.out]; exact Hc'.out, by rw [Hq.out]; omega, (HK.out.below HH.out.bel).le HH.out.hs, fun hne a ha hm => ?_⟩
            obtain ⟨b, off, e, hlt5, _⟩ := HK.out (by simpa using hne)
            rw [ha] at e
            injection e with e
            subst e
            have h5 := (HH.out.disk.lt hm).1
            have h6 : b < w.heap.size := hlt5
            have h7 : w.heap.size ≤ b := h5
            omega
          go_wp2_with fail
          refine (dcrash_any _ w.heap.size g L d keep _ HH.out.ok HH.out.disk qb).mono ?_
          rintro e wX ⟨rfl, L', hDX, hbX, hLX⟩
          have HHX := Lib.hid (HH.out.turn hDX hbX hLX (Nat.le_refl _) hOkc.1 (by rw [hOkc.2.1]; exact HH.out.steps) (by rw [hOkc.2.2.1]; omega))
          have hw0 := hOkc.2.2.1
          have Hsix := Lib.hid (hOkc.2.2.2.trans HT.out.six)
          generalize (d.crash keep).2 = cnt at *
          generalize (d.crash keep).1 = d' at *
          have Hw0 := Lib.hid hw0
          clear hOkc hDX hbX hLX HH HT qb hw0
          go_wp2_with fail
          go_loopw [11] (fun v W => ∃ (j : Nat), j ≤ 6 ∧ v = .int .i64 j ∧ Hid (Held w w.heap.size N7 g 6 W m L' vs ss d')) (fun v _ => 6 - (intOf v).toNat)
          case atStart => exact ⟨0, by omega, rfl, HHX⟩
          case round =>
            clear HHX
            obtain ⟨j, hj6, rfl, HH⟩ := hrel
            by_cases hlt4 : j < 6
            · obtain ⟨s, hs, hmem, hrd⟩ := Hc6.out j hlt4
              have hj6' : (j : Int) < 6 := by omega
              have hj0 : (0 : Int) ≤ (j : Int) := by omega
              obtain ⟨vd, vw, bm, hDA, hLe⟩ := HH.out.disk
              have HDA := Lib.hid hDA
              have HLe := Lib.hid hLe
              have Hs := Lib.hid hs
              have Hmem := Lib.hid hmem
              clear hDA hLe hs hmem
              go_wp2_with fail
              refine (dread_any _ w.heap.size g bm vd vw d' (j : Int) HH.out.ok HDA.out).mono ?_
              rintro e w1 ⟨he, hb1⟩
              rw [hrd] at he
              subst he
              have HH1 := Lib.hid (HH.out.below hb1)
              clear HDA HLe hrd
              go_wp2_with ((with_reducible refine at_alloc 43 ?_); refine wpList_alloc_rowV rfl 43 rfl zeroSec.cs Try.zeroS ?_)
              intro w2 hr2 hb2 hs2
              generalize hN12 : w1.heap.size = N12 at *
              go_wp2_with ((with_reducible refine at_store 43 ?_); refine wpList_store_rowV rfl 43 _ _ rfl N12 s.cs rfl rfl 43 zeroSec.cs hr2 (sec_size' _) (sec_same _ _) (sec_all _) ?_)
              intro w3 hr3 hg3 hs3
              have hb3 : Below w1.heap.size w1 w3 := by rw [hN12]; exact below_grown hb2 hg3 (Nat.le_refl _) (by omega)
              have HH3 := Lib.hid (HH1.out.below hb3)
              have HR3 := Lib.hid hr3
              clear hr2 hb2 hs2 hr3 hg3 hs3 hb3 hb1 HH HH1
              go_wp2_with fail
              obtain ⟨v, hv⟩ : ∃ v, vs[j]? = some v := ⟨_, List.getElem?_eq_getElem (by rw [HH3.out.seen.len]; omega)⟩
              have Hv := Lib.hid hv
              go_loopw [14, 15] (fun y v W => ∃ (i : Nat) (b : Bool), i ≤ (ss j).length ∧ v = .int .i64 i ∧ y = .bool b ∧ Hid (b = true ↔ s ∈ (ss j).take i) ∧ Hid (Held w w.heap.size N7 g 6 W m L' vs ss d') ∧ Hid (RowV W N12 43 s.cs)) (fun _ v _ => (ss j).length - (intOf v).toNat)
              case atStart => exact ⟨0, false, by omega, rfl, rfl, by show _ ↔ _; simp, HH3, HR3⟩
              case round =>
                clear HH3 HR3 hv
                obtain ⟨i, b, hil, rfl, rfl, Hb, HH, HR⟩ := hrel
                have hTl := HH.out.seen.tl j v hlt4 Hv.out
                obtain ⟨gv, kv, cv, hvv, hgv, hgl, hcl, hcm, hsec⟩ := hTl.1.form
                have hc5 : wr.cell? ⟨N7, j, none⟩ = some (.slice (some ⟨gv, kv, none⟩) (ss j).length cv) := by rw [← hvv]; exact HH.out.seen.row.cell Hv.out
                have hl90 : (ss j).length ≤ 90 := by
                  obtain ⟨_, _, pre, _, h2, _⟩ := hTl.1
                  omega
                have Hvv := Lib.hid hvv
                have Hsec := Lib.hid hsec
                clear hTl hvv hsec
                generalize hn5 : (ss j).length = n5 at *
                have Hn5 := Lib.hid hn5
                clear hn5
                by_cases hlt5 : i < n5
                · obtain ⟨t, ht⟩ : ∃ t, (ss j)[i]? = some t := ⟨_, List.getElem?_eq_getElem (by rw [Hn5.out]; omega)⟩
                  have hi5 : (i : Int) < (n5 : Int) := by omega
                  have hi0 : (0 : Int) ≤ (i : Int) := by omega
                  have htk : (ss j).take (i + 1) = (ss j).take i ++ [t] := by rw [List.take_add_one, ht]; rfl
                  have r1 : wr.drew.rangeAt gv (kv + i * 256) t.cs := Hsec.out i t ht
                  have r2 : RowV wr.drew N12 43 s.cs := HR.out
                  have hc5d : wr.drew.cell? ⟨N7, j, none⟩ = some (.slice (some ⟨gv, kv, none⟩) n5 cv) := hc5
                  have S1 := Lib.hid (sec_size t)
                  have S2 := Lib.hid (sec_size s)
                  have Htk := Lib.hid htk
                  clear htk ht
                  cases b
                  · have r2' : wr.drew.rangeAt N12 0 s.cs := fun j v hj => by rw [Nat.zero_add]; exact r2.cell hj
                    have hns : ¬ s ∈ (ss j).take i := fun h => by have := Hb.out.2 h; cases this
                    have Hns := Lib.hid hns
                    clear hns
                    go_wp2_with fail
                    refine wp_region_still_lit (by kernel_rfl) (by kernel_rfl) ?_
                    iterate 2 still_step
                    refine wpStill_exec (.int .i64 (j : Int)) rfl (by go_simp; try with_reducible rfl) ?_
                    try simp only [Act.put, List.setIfInBounds_toArray, List.set_cons_zero, List.set_cons_succ]
                    refine wpStill_exec (.pointer (some ⟨N7, j, none⟩)) rfl (by go_simp; try with_reducible rfl) ?_
                    try simp only [Act.put, List.setIfInBounds_toArray, List.set_cons_zero, List.set_cons_succ]
                    refine wpStill_exec (.slice (some ⟨gv, kv, none⟩) n5 cv) rfl (by go_simp; try with_reducible rfl) ?_
                    try simp only [Act.put, List.setIfInBounds_toArray, List.set_cons_zero, List.set_cons_succ]
                    refine wpStill_exec (.int .i64 (i : Int)) rfl (by go_simp; try with_reducible rfl) ?_
                    try simp only [Act.put, List.setIfInBounds_toArray, List.set_cons_zero, List.set_cons_succ]
                    refine wpStill_exec (.pointer (some ⟨gv, kv + i * 256, none⟩)) rfl (by go_simp; try with_reducible rfl) ?_
                    try simp only [Act.put, List.setIfInBounds_toArray, List.set_cons_zero, List.set_cons_succ]
                    refine wpStill_exec (.agg t.cs.toArray) rfl (by refine exec_load_mid 43 (.tmp 139) ?_ gv (kv + i * 256) ?_ t.cs _ r1 Try.underlying43 rfl S1.out <;> rfl) ?_
                    try simp only [Act.put, List.setIfInBounds_toArray, List.set_cons_zero, List.set_cons_succ]
                    refine wpStill_exec (.agg s.cs.toArray) rfl (by refine exec_load_mid 43 (.tmp 12) ?_ N12 0 ?_ s.cs _ r2' Try.underlying43 rfl S2.out <;> rfl) ?_
                    try simp only [Act.put, List.setIfInBounds_toArray, List.set_cons_zero, List.set_cons_succ]
                    refine wpStill_exec (.bool (t.1 == s.1)) rfl (by refine exec_eql_bytes 43 (.tmp 140) (.tmp 141) 43 ?_ Try.underlying43 Try.underlying5 Try.cells5' Try.guardS (xs := t.1) (ys := s.1) ?_ ?_ t.2 s.2 <;> rfl) ?_
                    try simp only [Act.put, List.setIfInBounds_toArray, List.set_cons_zero, List.set_cons_succ]
                    have Hbt : Hid ((t.1 == s.1) = true ↔ s ∈ (ss j).take (i + 1)) := by
                      show _ ↔ _
                      rw [Htk.out]
                      simp only [beq_iff_eq, List.mem_append, Hns.out, List.mem_singleton, false_or]
                      exact ⟨fun h => (Subtype.ext h).symm, fun h => by rw [h]⟩
                    generalize (t.1 == s.1) = bt at *
                    iterate 2 still_step
                    refine wpStill_nil ?_
                    change Exit.inBlock _ _ _ _ wr.drew
                    have HHd := Lib.hid HH.out.drew
                    have HRd := Lib.hid r2
                    generalize wr.drew = wd at *
                    clear r1 r2 r2' hc5d hc5
                    go_wp2_with fail
                    go_roundw
                    case rel => first | exact ⟨i + 1, _, by have := Hn5.out; omega, rfl, rfl, Hbt, HHd, HRd⟩
                    case measure => show n5 - (i + 1) < n5 - i; omega
                  · have Hbt : Hid (s ∈ (ss j).take (i + 1)) := by
                      show _ ∈ _
                      rw [Htk.out]
                      simp [Hb.out.1 rfl]
                    go_wp2_with fail
                    go_quiet (fail)
                    clear r1 r2 hc5d hc5
                    go_wp2_with fail
                    go_roundw
                    case rel => first | exact ⟨i + 1, true, by omega, rfl, rfl, Lib.hid ⟨fun _ => Hbt.out, fun _ => rfl⟩, Lib.hid (HH.out.below ⟨rfl, rfl, rfl, Nat.le_refl _, fun _ _ => rfl⟩), HR.out⟩
                    case measure => show n5 - (i + 1) < n5 - i; omega
                · have hin : i = n5 := by omega
                  have hge5 : (n5 : Int) ≤ (i : Int) := by omega
                  have hbt : b = true := Hb.out.2 (by rw [List.take_of_length_le (by rw [Hn5.out]; omega)]; exact Hmem.out)
                  subst hbt
                  go_wp2_with fail
                  refine wp_region_held_drew (S := fun W => RowV W N12 43 s.cs) (by kernel_rfl) HR.out.drew (fun hHeld => ?_)
                  have HHd := Lib.hid HH.out.drew
                  have S0 : RowV wr.drew N12 43 s.cs := HR.out.drew
                  generalize wr.drew = wd at *
                  have hss : (s.1 == s.1) = true := by simp
                  obtain ⟨vd, vw, bm, hDA, hLe⟩ := HHd.out.disk
                  have h6d : d'.dur.length = 6 := Hsix.out
                  refine wpAnyH_take (i := 0) (oi := ⟨_, _, _, _, _, _⟩) (v := ?_) rfl (by kernel_rfl) (by kernel_rfl) (by kernel_rfl) (fun _ _ _ h => h) (Or.inl ⟨by rfl, ?_⟩) (by assumption) ?_
                  rotate_left
                  · intro W hSW; go_simp; try with_reducible rfl
                  try simp only [Act.put, List.setIfInBounds_toArray, List.set_cons_zero, List.set_cons_succ]
                  refine wpAnyH_take (i := 1) (oi := ⟨_, _, _, _, _, _⟩) (v := ?_) rfl (by kernel_rfl) (by kernel_rfl) (by kernel_rfl) (fun _ _ _ h => h) (Or.inl ⟨by rfl, ?_⟩) (by assumption) ?_
                  rotate_left
                  · intro W hSW; go_simp; try with_reducible rfl
                  try simp only [Act.put, List.setIfInBounds_toArray, List.set_cons_zero, List.set_cons_succ]
                  refine wpAnyH_take (i := 2) (oi := ⟨_, _, _, _, _, _⟩) (v := ?_) rfl (by kernel_rfl) (by kernel_rfl) (by kernel_rfl) (fun _ _ _ h => h) (Or.inl ⟨by rfl, ?_⟩) (by assumption) ?_
                  rotate_left
                  · intro W hSW; go_simp; try with_reducible rfl
                  try simp only [Act.put, List.setIfInBounds_toArray, List.set_cons_zero, List.set_cons_succ]
                  refine wpAnyH_take (i := 3) (oi := ⟨_, _, _, _, _, _⟩) (v := ?_) rfl (by kernel_rfl) (by kernel_rfl) (by kernel_rfl) (fun _ _ _ h => h) (Or.inl ⟨by rfl, ?_⟩) (by assumption) ?_
                  rotate_left
                  · intro W hSW; go_simp; try with_reducible rfl
                  try simp only [Act.put, List.setIfInBounds_toArray, List.set_cons_zero, List.set_cons_succ]
                  refine wpAnyH_take (i := 4) (oi := ⟨_, _, _, _, _, _⟩) (v := ?_) rfl (by kernel_rfl) (by kernel_rfl) (by kernel_rfl) (fun _ _ _ h => h) (Or.inl ⟨by rfl, ?_⟩) (by assumption) ?_
                  rotate_left
                  · intro W hSW; go_simp; try with_reducible rfl
                  try simp only [Act.put, List.setIfInBounds_toArray, List.set_cons_zero, List.set_cons_succ]
                  refine wpAnyH_take (i := 5) (oi := ⟨_, _, _, _, _, _⟩) (v := ?_) rfl (by kernel_rfl) (by kernel_rfl) (by kernel_rfl) (fun _ _ _ h => h) (Or.inl ⟨by rfl, ?_⟩) (by assumption) ?_
                  rotate_left
                  · intro W hSW; go_simp; try with_reducible rfl
                  try simp only [Act.put, List.setIfInBounds_toArray, List.set_cons_zero, List.set_cons_succ]
                  refine wpAnyH_take (i := 6) (oi := ⟨_, _, _, _, _, _⟩) (v := ?_) rfl (by kernel_rfl) (by kernel_rfl) (by kernel_rfl) (fun _ _ _ h => h) (Or.inl ⟨by rfl, ?_⟩) (by assumption) ?_
                  rotate_left
                  · intro W hSW; go_simp; try with_reducible rfl
                  try simp only [Act.put, List.setIfInBounds_toArray, List.set_cons_zero, List.set_cons_succ]
                  refine wpAnyH_take (i := 7) (oi := ⟨_, _, _, _, _, _⟩) (v := ?_) rfl (by kernel_rfl) (by kernel_rfl) (by kernel_rfl) (fun _ _ _ h => h) (Or.inl ⟨by rfl, ?_⟩) (by assumption) ?_
                  rotate_left
                  · intro W hSW; go_simp; try with_reducible rfl
                  try simp only [Act.put, List.setIfInBounds_toArray, List.set_cons_zero, List.set_cons_succ]
                  refine wpAnyH_take (i := 9) (oi := ⟨_, _, _, _, _, _⟩) (v := ?_) rfl (by kernel_rfl) (by kernel_rfl) (by kernel_rfl) (fun _ _ _ h => h) (Or.inl ⟨by rfl, ?_⟩) (by assumption) ?_
                  rotate_left
                  · intro W hSW; go_simp; try with_reducible rfl
                  try simp only [Act.put, List.setIfInBounds_toArray, List.set_cons_zero, List.set_cons_succ]
                  refine wpAnyH_take (i := 12) (oi := ⟨_, _, _, _, _, _⟩) (v := ?_) rfl (by kernel_rfl) (by kernel_rfl) (by kernel_rfl) (fun _ _ _ h => h) (Or.inl ⟨by rfl, ?_⟩) (by assumption) ?_
                  rotate_left
                  · intro W hSW; refine exec_load_mid 43 (.tmp 12) ?_ N12 0 ?_ s.cs _ (fun j v hj => by rw [Nat.zero_add]; exact RowV.cell hSW hj) Try.underlying43 rfl (sec_size s) <;> rfl
                  try simp only [Act.put, List.setIfInBounds_toArray, List.set_cons_zero, List.set_cons_succ]
                  refine wpAnyH_ready (rs := [8]) (by kernel_rfl) (by simp) ?_
                  refine AllReadyH.cons (o := ⟨_, _, _, _, _, _⟩) rfl (fun K hK => ?_) AllReadyH.nil
                  go_simp
                  refine (dimage_any _ w.heap.size g bm vd vw d' HHd.out.ok hDA).mono ?_
                  rintro e wI ⟨vI, rfl, hoI, hbI⟩
                  rw [h6d] at hoI
                  obtain ⟨gi, ci, rfl, _, _, _, _⟩ := own_form hoI (by omega)
                  have SI : RowV wI N12 43 s.cs := S0.below S0.lt hbI
                  have rI := sec_range hoI Hs.out
                  try simp only []
                  refine hK.out _ _ (SI) (fun hHeld => ?_)
                  clear hK K
                  try simp only [Act.put, List.setIfInBounds_toArray, List.set_cons_zero, List.set_cons_succ]
                  refine wpAnyH_ready (rs := [10]) (by kernel_rfl) (by simp) ?_
                  refine AllReadyH.cons (o := ⟨_, _, _, _, _, _⟩) rfl (fun K hK => ?_) AllReadyH.nil
                  go_simp
                  refine hK.out _ _ (SI) (fun hHeld => ?_)
                  clear hK K
                  try simp only [Act.put, List.setIfInBounds_toArray, List.set_cons_zero, List.set_cons_succ]
                  refine wpAnyH_ready (rs := [11]) (by kernel_rfl) (by simp) ?_
                  refine AllReadyH.cons (o := ⟨_, _, _, _, _, _⟩) rfl (fun K hK => ?_) AllReadyH.nil
                  refine ite_yes rfl ?_
                  refine wp_of_exec (.agg s.cs.toArray) (by refine exec_load_mid 43 (.tmp 154) ?_ gi (j * 256) ?_ s.cs _ rI Try.underlying43 rfl (sec_size s) <;> rfl) ?_
                  refine hK.out _ _ (SI) (fun hHeld => ?_)
                  clear hK K
                  try simp only [Act.put, List.setIfInBounds_toArray, List.set_cons_zero, List.set_cons_succ]
                  refine wpAnyH_take (i := 13) (oi := ⟨_, _, _, _, _, _⟩) (v := ?_) rfl (by kernel_rfl) (by kernel_rfl) (by kernel_rfl) (fun _ _ _ h => h) (Or.inl ⟨by rfl, ?_⟩) (by assumption) ?_
                  rotate_left
                  · intro W hSW; refine exec_neqB 43 (.tmp 155) (.tmp 156) 43 ?_ Try.underlying43 Try.underlying5 Try.cells5' Try.guardS (xs := s.1) (ys := s.1) ?_ ?_ s.2 s.2 <;> rfl
                  try simp only [Act.put, List.setIfInBounds_toArray, List.set_cons_zero, List.set_cons_succ]
                  refine wpAnyH_take (i := 14) (oi := ⟨_, _, _, _, _, _⟩) (v := ?_) rfl (by kernel_rfl) (by kernel_rfl) (by kernel_rfl) (fun _ _ _ h => h) (Or.inl ⟨by rfl, ?_⟩) (by assumption) ?_
                  rotate_left
                  · intro W hSW; go_simp; try with_reducible rfl
                  try simp only [Act.put, List.setIfInBounds_toArray, List.set_cons_zero, List.set_cons_succ]
                  refine wpAnyH_done (by kernel_rfl) ?_ _
                  simp only [hss, Bool.not_true]
                  have HHI := Lib.hid (HHd.out.below hbI)
                  clear hss hoI hbI rI SI S0 hDA hLe HHd hHeld HR HH hc5
                  go_wp2_with fail
                  go_roundw
                  case rel => first | exact ⟨j + 1, by omega, rfl, HHI⟩
                  case measure => show 6 - (j + 1) < 6 - j; omega
            · have hj : j = 6 := by omega
              have hge : (6 : Int) ≤ (j : Int) := by omega
              obtain ⟨vd, vw, bm, hDA, hLe⟩ := HH.out.disk
              go_wp2_with fail
              refine (dwaits_any _ w.heap.size g bm vd vw d' hDA).mono ?_
              rintro e w1 ⟨he, hww⟩
              rw [Hw0.out] at he
              rw [hww]
              subst he
              go_wp2_with fail
              refine (works_any _).mono ?_
              rintro e w2 ⟨rfl, hb2⟩
              go_wp2_with fail
              go_ret
              exact ⟨rfl, HH.out.bel.trans (hb2.mono HH.out.hs)⟩
end Go.Proofs.Ytamjkmelfpdhiaa
