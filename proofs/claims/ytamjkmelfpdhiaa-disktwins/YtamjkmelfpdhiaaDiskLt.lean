/-
  Layer 6: the walk of DiskTwins.
-/
import Derived.Test.YtamjkmelfpdhiaaDiskLw
namespace Go.Proofs.Ytamjkmelfpdhiaa
open Go.RowKit Go.Maps
set_option linter.unusedVariables false
set_option linter.unusedSimpArgs false

theorem both_new {w w2 w3 w4 w5 : World} {n g N0 : Nat} {L : List Nat} {vl : Value} (hD2 : Disk w2 w.heap.size L g (Dk.new n)) (hb2 : Below w.heap.size w w2) (ho3 : w3.ownsRow w2.heap.size 43 256 vl n (secs (List.replicate n zeroSec))) (hb3 : Below w2.heap.size w2 w3) (hN0 : w3.heap.size = N0) (hb4 : Below N0 w3 w4) (hs4 : w4.heap.size = N0 + 1) (hr5 : RowV w5 N0 32 (rc vl (.slice none 0 0) (Dk.new n))) (hg5 : w4.grownBy w5 (some N0)) (hn1 : 1 ≤ n) (hn : n ≤ 4096) : Both w w.heap.size N0 g w5 0 L vl (.slice none 0 0) (Dk.new n) := by
  have hB3 : Below w.heap.size w w3 := hb2.trans (hb3.mono hb2.size)
  have hD3 := hD2.below hb3
  have hltL : ∀ k ∈ L, k < w2.heap.size := fun k hk => (hD2.lt hk).2
  have hsz : w.heap.size ≤ w2.heap.size := hb2.size
  have hsz3 : w2.heap.size ≤ N0 := by have := hb3.size; omega
  have hD4 := hD3.below (w' := w4) (by rw [hN0]; exact hb4)
  have hD5 : Disk w5 w.heap.size L g (Dk.new n) := hD4.but ((But.refl [N0] _ w4).grown hg5 (by intro k e; injection e with e; simp [e]) (Nat.le_refl _)) (fun k hk => ⟨by have := hltL k hk; omega, by simp; have := hltL k hk; omega⟩)
  have ho4 := own_below ho3 (w' := w4) (by rw [hN0]; exact hb4)
  have ho5 := ho4.kept hg5 (.inr (by intro e; have := (ho3.lt _ e).2; omega))
  have hB5 : Below w.heap.size w w5 := below_grown (hB3.trans (hb4.mono (by omega))) hg5 (by omega) (by omega)
  exact ⟨hr5, hD5, ⟨own_rebase (by show World.ownsRow _ _ _ _ _ (List.replicate n zeroSec).length (secs (List.replicate n zeroSec)); rw [List.length_replicate]; exact ho5) fun k hk => by have := (ho5.lt k hk).1; omega, World.ownsRow_nil _ _ _ _⟩, fun k hk hm => by
        rcases hk with hk | hk
        · have := (ho5.lt k hk).1; have := hltL k hm; omega
        · simp [Value.ownBlock] at hk, new_ok hn1 (by omega), Nat.le_refl _, Nat.le_refl _, fun hm => by have := hltL _ hm; omega, hB5, by omega, hB5.size⟩

set_option maxRecDepth 100000 in
set_option maxHeartbeats 8000000 in
theorem twins_any (w : World) (A A' : Option Addr) (c c' : Nat) (l l' : List OpV) (h : OpsAt w w.heap.size A l) (hc : l.length ≤ c) (h' : OpsAt w w.heap.size A' l') (hc' : l'.length ≤ c') :
    Calls Try.prog 5 #[.slice A l.length c, .slice A' l'.length c'] w fun e w' => e = .returned (.bool true) ∧ Below w.heap.size w w' := by
  have HO := Lib.hid h
  have HO' := Lib.hid h'
  have Hc := Lib.hid hc
  have Hc' := Lib.hid hc'
  clear h hc h' hc'
  cases hlt : lightB l
  · go_enter Try.func5, Try.ntmps5
    go_wp2_with fail
    refine (light_any w w.heap.size A c l HO.out Hc.out).mono ?_
    rintro e w1 ⟨rfl, hww⟩
    rw [hww, hlt]
    go_wp2_with fail
    refine (works_any w).mono ?_
    rintro e w2 ⟨rfl, hb2⟩
    go_wp2_with fail
    go_ret
    exact ⟨rfl, hb2⟩
  cases hlt2 : lightB l'
  · go_enter Try.func5, Try.ntmps5
    go_wp2_with fail
    refine (light_any w w.heap.size A c l HO.out Hc.out).mono ?_
    rintro e w1 ⟨rfl, hww⟩
    rw [hww, hlt]
    go_wp2_with fail
    refine (light_any w w.heap.size A' c' l' HO'.out Hc'.out).mono ?_
    rintro e w1' ⟨rfl, hww'⟩
    rw [hww', hlt2]
    go_wp2_with fail
    refine (works_any w).mono ?_
    rintro e w2 ⟨rfl, hb2⟩
    go_wp2_with fail
    go_ret
    exact ⟨rfl, hb2⟩
  have Hl := Lib.hid hlt
  have Hl' := Lib.hid hlt2
  have hm80 := light_len hlt
  have hm80' := light_len hlt2
  go_enter Try.func5, Try.ntmps5
  go_wp2_with fail
  refine (light_any w w.heap.size A c l HO.out Hc.out).mono ?_
  rintro e w1 ⟨rfl, hww⟩
  rw [hww, hlt]
  clear hlt hww w1
  go_wp2_with fail
  refine (light_any w w.heap.size A' c' l' HO'.out Hc'.out).mono ?_
  rintro e w1 ⟨rfl, hww⟩
  rw [hww, hlt2]
  clear hlt2 hww w1
  generalize hm : l.length = m at *
  generalize hm' : l'.length = m' at *
  have Hm := Lib.hid hm
  have Hm' := Lib.hid hm'
  clear hm hm'
  go_wp2_with fail
  refine (dnew_any w 8 (by omega) (by omega)).mono ?_
  rintro e w2 ⟨g, L, rfl, hD2, hb2⟩
  go_wp2_with fail
  refine (rnew_any w2 8 (by omega) (by omega)).mono ?_
  rintro e w3 ⟨vl, rfl, ho3, hb3⟩
  have ov := own_one ho3
  go_wp2_with ((with_reducible refine at_alloc 32 ?_); refine wpList_alloc_rowV rfl 32 rfl rc0 Try.zeroR ?_)
  intro w4 hr4 hb4 hs4
  generalize hN0 : w3.heap.size = N0 at *
  go_wp2_with ((with_reducible refine at_store 32 ?_); refine wpList_store_rowV rfl 32 _ _ rfl (N0) (rc vl (.slice none 0 0) (Dk.new 8)) rfl rfl 32 (rc0) hr4 (rc_size _ rfl) rfl (rc_all ov rfl) ?_)
  intro w5 hr5 hg5 hs5
  have hBoth : Both w w.heap.size N0 g w5 0 L vl (.slice none 0 0) (Dk.new 8) := both_new hD2 hb2 ho3 hb3 hN0 hb4 hs4 hr5 hg5 (by omega) (by omega)
  clear hr4 hb4 hs4 hr5 hg5 hs5 hb3 hb2 hD2 ho3 ov
  have HBoth := Lib.hid hBoth
  clear hBoth
  go_wp2_with fail
  go_loopw [9, 10] (fun y v W => ∃ (k : Nat) (L : List Nat) (vl vw : Value) (d : Dk), k ≤ m ∧ v = .int .i64 k ∧ y = .bool true ∧ Hid (Both w w.heap.size N0 g W k L vl vw d)) (fun _ v _ => m - (intOf v).toNat)
  case atStart => exact ⟨0, L, vl, _, _, Nat.zero_le _, rfl, rfl, HBoth⟩
  case round =>
    clear HBoth
    obtain ⟨k, L, vl, vw, d, hkm, rfl, rfl, HB⟩ := hrel
    by_cases hlt : k < m
    · obtain ⟨o, ho⟩ : ∃ o, l[k]? = some o := ⟨_, List.getElem?_eq_getElem (by rw [Hm.out]; omega)⟩
      obtain ⟨ba, off, rfl, hba, hro⟩ := HO.out.at_ ho
      have hlt' : (k : Int) < (m : Int) := by omega
      have hk0 : (0 : Int) ≤ (k : Int) := by omega
      have hB := HB.out.drew
      have qo : wr.drew.rangeAt ba (off + k * 4) o.cs := fun j v hj => (hB.bel.cell hba).trans (hro j v hj)
      have hLb : ∀ k ∈ L, w.heap.size ≤ k := fun k hk => (hB.disk.lt hk).1
      have qop : Bools wr.drew L (.slice o.A o.keep.length o.c) o.keep := HO.out.bools (base := 0) (List.mem_of_getElem? ho) Hl.out hB.bel hLb
      have Hx := Lib.hid (HO.out.keeps o (List.mem_of_getElem? ho)).2.2
      have hbaL : ba ∉ N0 :: L := by
        intro h'
        rcases List.mem_cons.1 h' with h' | h'
        · have := hB.hb; omega
        · have := hLb _ h'; omega
      have hszd : w.heap.size ≤ wr.drew.heap.size := hB.hs
      clear hro
      go_wp2_with fail
      refine wp_region_held_drew (S := fun W => But (N0 :: L) wr.drew.heap.size wr.drew W) (by kernel_rfl) (But.refl _ _ _) (fun hHeld => ?_)
      generalize wr.drew = wd at *
      have S0 : But (N0 :: L) wd.heap.size wd wd := But.refl _ _ _
      have hsub : ∀ k ∈ L, k ∈ N0 :: L := fun k hk => List.mem_cons_of_mem _ hk
      have q7 := hB.row
      have qD := hB.disk
      have qR := hB.ref
      have qap := hB.ap
      have Hok := Lib.hid hB.ok
      have Hoks := Lib.hid (hB.ok.stepped (by have := hB.steps; omega))
      have hwl : d.wait.length < 1000000 := by have := hB.wait; omega
      have hbd := hB.hs
      have hl7 := hB.row.lt
      have hNL := hB.nb
      have HB' := Lib.hid hB
      clear hB HB
      refine wpAnyH_take (i := 0) (oi := ⟨_, _, _, _, _, _⟩) (v := ?_) rfl (by kernel_rfl) (by kernel_rfl) (by kernel_rfl) (fun _ _ _ h => h) (Or.inl ⟨by rfl, ?_⟩) (by assumption) ?_
      rotate_left
      · intro W hSW; go_simp; try with_reducible rfl
      try simp only [Act.put, List.setIfInBounds_toArray, List.set_cons_zero, List.set_cons_succ]
      refine wpAnyH_take (i := 2) (oi := ⟨_, _, _, _, _, _⟩) (v := ?_) rfl (by kernel_rfl) (by kernel_rfl) (by kernel_rfl) (fun _ _ _ h => h) (Or.inl ⟨by rfl, ?_⟩) (by assumption) ?_
      rotate_left
      · intro W hSW; go_simp; try with_reducible rfl
      try simp only [Act.put, List.setIfInBounds_toArray, List.set_cons_zero, List.set_cons_succ]
      refine wpAnyH_take (i := 3) (oi := ⟨_, _, _, _, _, _⟩) (v := ?_) rfl (by kernel_rfl) (by kernel_rfl) (by kernel_rfl) (fun _ _ _ h => h) (Or.inl ⟨by rfl, ?_⟩) (by assumption) ?_
      rotate_left
      · intro W hSW; go_simp; try with_reducible rfl
      try simp only [Act.put, List.setIfInBounds_toArray, List.set_cons_zero, List.set_cons_succ]
      refine wpAnyH_take (i := 4) (oi := ⟨_, _, _, _, _, _⟩) (v := ?_) rfl (by kernel_rfl) (by kernel_rfl) (by kernel_rfl) (fun _ _ _ h => h) (Or.inl ⟨by rfl, ?_⟩) (by assumption) ?_
      rotate_left
      · intro W hSW; go_simp; try with_reducible rfl
      try simp only [Act.put, List.setIfInBounds_toArray, List.set_cons_zero, List.set_cons_succ]
      refine wpAnyH_take (i := 5) (oi := ⟨_, _, _, _, _, _⟩) (v := ?_) rfl (by kernel_rfl) (by kernel_rfl) (by kernel_rfl) (fun _ _ _ h => h) (Or.inl ⟨by rfl, ?_⟩) (by assumption) ?_
      rotate_left
      · intro W hSW; refine exec_load_mid 39 (.tmp 51) ?_ ba (off + k * 4) ?_ o.cs _ (fun j v hj => (World.cell?_of_block (hSW.block ba (Nat.lt_of_lt_of_le hba hszd) hbaL)).trans (qo j v hj)) Try.underlying39 rfl Try.sizeOp <;> rfl
      try simp only [Act.put, List.setIfInBounds_toArray, List.set_cons_zero, List.set_cons_succ]
      refine wpAnyH_ready (rs := [1]) (by kernel_rfl) (by simp) ?_
      refine AllReadyH.cons (o := ⟨_, _, _, _, _, _⟩) rfl (fun K hK => ?_) AllReadyH.nil
      refine ite_yes rfl ?_
      refine wp_load_row 32 (.tmp 7) rfl N0 rfl 32 (rc vl vw d).toArray (0, 0) _ q7 Try.underlying32 rfl (rc_size _ rfl) ?_
      refine hK.out _ _ (S0) (fun hHeld => ?_)
      clear hK K
      try simp only [Act.put, List.setIfInBounds_toArray, List.set_cons_zero, List.set_cons_succ]
      refine wpAnyH_ready (rs := [6]) (by kernel_rfl) (by simp) ?_
      refine AllReadyH.cons (o := ⟨_, _, _, _, _, _⟩) rfl (fun K hK => ?_) AllReadyH.nil
      go_simp
      refine (do_any wd w.heap.size g L vl vw d o Hok.out Hoks.out hwl hbd qD qR qap qop).mono ?_
      rintro e wB ⟨vl', vw', L', rfl, hDB, hRB, hbB, hLB, n1, n2, ha⟩
      have SB : But (N0 :: L) wd.heap.size wd wB := hbB.sub hsub
      try simp only []
      refine hK.out _ _ (SB) (fun hHeld => ?_)
      clear hK K
      try simp only [Act.put, List.setIfInBounds_toArray, List.set_cons_zero, List.set_cons_succ]
      have r7B := rowV_but q7 hbB hl7 hNL
      refine wpAnyH_take (i := 7) (oi := ⟨_, _, _, _, _, _⟩) (v := ?_) rfl (by kernel_rfl) (by kernel_rfl) (by kernel_rfl) (fun _ _ _ h => h) (Or.inl ⟨by rfl, ?_⟩) (by assumption) ?_
      rotate_left
      · intro W hSW; (try dsimp only at hSW); go_simp; try with_reducible rfl
      try simp only [Act.put, List.setIfInBounds_toArray, List.set_cons_zero, List.set_cons_succ]
      refine wpAnyH_take (i := 8) (oi := ⟨_, _, _, _, _, _⟩) (v := ?_) rfl (by kernel_rfl) (by kernel_rfl) (by kernel_rfl) (fun _ _ _ h => h) (Or.inl ⟨by rfl, ?_⟩) (by assumption) ?_
      rotate_left
      · intro W hSW; (try dsimp only at hSW); go_simp; try with_reducible rfl
      try simp only [Act.put, List.setIfInBounds_toArray, List.set_cons_zero, List.set_cons_succ]
      refine wpAnyH_take (i := 9) (oi := ⟨_, _, _, _, _, _⟩) (v := ?_) rfl (by kernel_rfl) (by kernel_rfl) (by kernel_rfl) (fun _ _ _ h => h) (Or.inl ⟨by rfl, ?_⟩) (by assumption) ?_
      rotate_left
      · intro W hSW; (try dsimp only at hSW); go_simp; try with_reducible rfl
      try simp only [Act.put, List.setIfInBounds_toArray, List.set_cons_zero, List.set_cons_succ]
      refine wpAnyH_ready (rs := [10]) (by kernel_rfl) (by simp) ?_
      refine AllReadyH.cons (o := ⟨_, _, _, _, _, _⟩) rfl (fun K hK => ?_) AllReadyH.nil
      refine ite_yes rfl ?_
      refine wp_store_rc (.tmp 7) (.tmp 54) rfl N0 (rc vl' vw' (d.act o)) (rc vl vw d) rfl rfl r7B rfl rfl (rc_all (own_one hRB.last) (own_one hRB.wait)) ?_
      intro wD hrD hgD hsD
      have SD : But (N0 :: L) wd.heap.size wd wD := SB.grown hgD (by intro k e; injection e with e; left; simp [e]) SB.size
      refine hK.out _ _ SD (fun hHeld => ?_)
      clear hK K
      try simp only [Act.put, List.setIfInBounds_toArray, List.set_cons_zero, List.set_cons_succ]
      refine wpAnyH_take (i := 11) (oi := ⟨_, _, _, _, _, _⟩) (v := ?_) rfl (by kernel_rfl) (by kernel_rfl) (by kernel_rfl) (fun _ _ _ h => h) (Or.inl ⟨by rfl, ?_⟩) (by assumption) ?_
      rotate_left
      · intro W hSW; (try dsimp only at hSW); go_simp; try with_reducible rfl
      try simp only [Act.put, List.setIfInBounds_toArray, List.set_cons_zero, List.set_cons_succ]
      refine wpAnyH_done (by kernel_rfl) ?_ _
      have HBn := Lib.hid (HB'.out.next (by omega) Hx.out hDB hRB hbB hLB ha r7B hrD hgD)
      clear q7 qD qR qap qo qop hDB hRB hbB hLB ha r7B hgD SB SD hHeld
      go_wp2_with fail
      go_roundw
      case rel => exact ⟨k + 1, L', vl', vw', d.act o, by omega, rfl, rfl, HBn⟩
      case measure => show m - (k + 1) < m - k; omega
    · obtain rfl : m = k := by omega
      obtain ⟨wq, hwq⟩ : ∃ wq, wq = wr := ⟨_, rfl⟩
      subst hwq
      go_wp2_with fail
      refine (dtwin_any wq w.heap.size g L d HB.out.ok HB.out.disk).mono ?_
      rintro e w6 ⟨gt, Lt, rfl, hT6, hb6⟩
      have z6 := HB.out.row.below HB.out.row.lt hb6
      have z0 := z6.cell (i := 0) rfl
      have z1 := z6.cell (i := 1) rfl
      have z2 := z6.cell (i := 2) rfl
      have z3 := z6.cell (i := 3) rfl
      have z4 := z6.cell (i := 4) rfl
      go_wp2_with fail
      refine (same_disk w6 wq.heap.size w.heap.size gt Lt vl vw d HB.out.ok hT6 (HB.out.ref.below hb6)).mono ?_
      rintro e w7 ⟨rfl, hb7⟩
      have hB7 : Below wq.heap.size wq w7 := hb6.trans (hb7.mono hb6.size)
      have hT7 := hT6.below hb7
      have r7 := HB.out.row.below HB.out.row.lt hB7
      have o1 := own_one HB.out.ref.last
      have o2 := own_one HB.out.ref.wait
      have hsz7 : wq.heap.size ≤ w7.heap.size := hB7.size
      clear z6 z0 z1 z2 z3 z4 hT6 hb6 hb7
      go_wp2_with (first
        | ((with_reducible refine at_load 32 ?_); refine wpList_load_row rfl 32 _ rfl (N0) rfl 32 (rc vl vw d).toArray (0, 0) _ r7 Try.underlying32 rfl (rc_size _ rfl) ?_)
        | ((with_reducible refine at_alloc 32 ?_); refine wpList_alloc_rowV rfl 32 rfl rc0 Try.zeroR ?_))
      intro w8 hr8 hb8 hs8
      generalize hN5 : w7.heap.size = N5 at *
      go_wp2_with ((with_reducible refine at_store 32 ?_); refine wpList_store_rowV rfl 32 _ _ rfl (N5) (rc vl vw d) rfl rfl 32 (rc0) hr8 (rc_size _ rfl) rfl (rc_all o1 o2) ?_)
      intro w9 hr9 hg9 hs9
      have hB8 : Below wq.heap.size wq w8 := hB7.trans (hb8.mono (by omega))
      have hB9 : Below wq.heap.size wq w9 := below_grown hB8 hg9 (by omega) hB8.size
      have hLt7 : ∀ k ∈ Lt, wq.heap.size ≤ k ∧ k < N5 := fun k hk => ⟨(hT7.lt hk).1, by have := (hT7.lt hk).2; omega⟩
      have hT8 := hT7.below (w' := w8) (by rw [hN5]; exact hb8)
      have hT9 : Disk w9 wq.heap.size Lt gt d := hT8.but ((But.refl [N5] _ w8).grown hg9 (by intro k e; injection e with e; simp [e]) (Nat.le_refl _)) (fun k hk => ⟨by have := (hLt7 k hk).2; omega, by simp; have := (hLt7 k hk).2; omega⟩)
      have hBt : Both w w.heap.size N5 gt w9 m Lt vl vw d :=
        ⟨hr9, hT9.lower HB.out.hs, HB.out.ref.below hB9, fun j hj hm => by
          have h1 := (hLt7 j hm).1
          rcases hj with hj | hj
          · have := (HB.out.ref.last.lt j hj).2; omega
          · have := (HB.out.ref.wait.lt j hj).2; omega, HB.out.ok, HB.out.steps, HB.out.wait, fun hm => by have := (hLt7 _ hm).2; omega, HB.out.bel.trans (hB9.mono HB.out.hs), by have := HB.out.hs; omega, Nat.le_trans HB.out.hs hB9.size⟩
      have HBt := Lib.hid hBt
      have HB9 := Lib.hid hB9
      have HL9 : Hid (∀ j ∈ Lt, wq.heap.size ≤ j) := fun j hj => (hLt7 j hj).1
      have hN5w : wq.heap.size ≤ N5 := by omega
      have HBd : Hid (∃ L vl vw d, Both w w.heap.size N0 g wq m L vl vw d) := ⟨_, _, _, _, HB.out⟩
      clear hBt hB9 hLt7 hT8 hT9 hB8 hr9 hg9 hs9 hr8 hb8 hs8 hT7 hB7 r7 HB
      go_wp2_with fail
      go_loopw [9, 13] (fun y v W => ∃ (j : Nat) (L : List Nat) (vl vw : Value) (d : Dk), j ≤ m' ∧ v = .int .i64 j ∧ y = .bool true ∧ Hid (Both w w.heap.size N5 gt W (m + j) L vl vw d) ∧ Hid (Below wq.heap.size wq W) ∧ Hid (∀ i ∈ L, wq.heap.size ≤ i)) (fun _ v _ => m' - (intOf v).toNat)
      case atStart => exact ⟨0, Lt, vl, vw, d, Nat.zero_le _, rfl, rfl, HBt, HB9, HL9⟩
      case round =>
        clear HBt HB9 HL9
        obtain ⟨k, L, vl, vw, d, hkm2, rfl, rfl, HB, HW, HLt⟩ := hrel
        by_cases hlt2 : k < m'
        · obtain ⟨o, ho⟩ : ∃ o, l'[k]? = some o := ⟨_, List.getElem?_eq_getElem (by rw [Hm'.out]; omega)⟩
          obtain ⟨ba, off, rfl, hba, hro⟩ := HO'.out.at_ ho
          have hlt' : (k : Int) < (m' : Int) := by omega
          have hk0 : (0 : Int) ≤ (k : Int) := by omega
          have hB := HB.out.drew
          have qo : wr.drew.rangeAt ba (off + k * 4) o.cs := fun j v hj => (hB.bel.cell hba).trans (hro j v hj)
          have hLb : ∀ k ∈ L, w.heap.size ≤ k := fun k hk => (hB.disk.lt hk).1
          have qop : Bools wr.drew L (.slice o.A o.keep.length o.c) o.keep := HO'.out.bools (base := 0) (List.mem_of_getElem? ho) Hl'.out hB.bel hLb
          have Hx := Lib.hid (HO'.out.keeps o (List.mem_of_getElem? ho)).2.2
          have hbaL : ba ∉ N5 :: L := by
            intro h'
            rcases List.mem_cons.1 h' with h' | h'
            · have := hB.hb; omega
            · have := hLb _ h'; omega
          have hszd : w.heap.size ≤ wr.drew.heap.size := hB.hs
          clear hro
          go_wp2_with fail
          refine wp_region_held_drew (S := fun W => But (N5 :: L) wr.drew.heap.size wr.drew W) (by kernel_rfl) (But.refl _ _ _) (fun hHeld => ?_)
          have hWd : Below wq.heap.size wq wr.drew := HW.out.drew
          generalize wr.drew = wd at *
          have S0 : But (N5 :: L) wd.heap.size wd wd := But.refl _ _ _
          have hsub : ∀ k ∈ L, k ∈ N5 :: L := fun k hk => List.mem_cons_of_mem _ hk
          have q7 := hB.row
          have qD := hB.disk
          have qR := hB.ref
          have qap := hB.ap
          have Hok := Lib.hid hB.ok
          have Hoks := Lib.hid (hB.ok.stepped (by have := hB.steps; omega))
          have hwl : d.wait.length < 1000000 := by have := hB.wait; omega
          have hbd := hB.hs
          have hl7 := hB.row.lt
          have hNL := hB.nb
          have HB' := Lib.hid hB
          clear hB HB
          refine wpAnyH_take (i := 0) (oi := ⟨_, _, _, _, _, _⟩) (v := ?_) rfl (by kernel_rfl) (by kernel_rfl) (by kernel_rfl) (fun _ _ _ h => h) (Or.inl ⟨by rfl, ?_⟩) (by assumption) ?_
          rotate_left
          · intro W hSW; go_simp; try with_reducible rfl
          try simp only [Act.put, List.setIfInBounds_toArray, List.set_cons_zero, List.set_cons_succ]
          refine wpAnyH_take (i := 2) (oi := ⟨_, _, _, _, _, _⟩) (v := ?_) rfl (by kernel_rfl) (by kernel_rfl) (by kernel_rfl) (fun _ _ _ h => h) (Or.inl ⟨by rfl, ?_⟩) (by assumption) ?_
          rotate_left
          · intro W hSW; go_simp; try with_reducible rfl
          try simp only [Act.put, List.setIfInBounds_toArray, List.set_cons_zero, List.set_cons_succ]
          refine wpAnyH_take (i := 3) (oi := ⟨_, _, _, _, _, _⟩) (v := ?_) rfl (by kernel_rfl) (by kernel_rfl) (by kernel_rfl) (fun _ _ _ h => h) (Or.inl ⟨by rfl, ?_⟩) (by assumption) ?_
          rotate_left
          · intro W hSW; go_simp; try with_reducible rfl
          try simp only [Act.put, List.setIfInBounds_toArray, List.set_cons_zero, List.set_cons_succ]
          refine wpAnyH_take (i := 4) (oi := ⟨_, _, _, _, _, _⟩) (v := ?_) rfl (by kernel_rfl) (by kernel_rfl) (by kernel_rfl) (fun _ _ _ h => h) (Or.inl ⟨by rfl, ?_⟩) (by assumption) ?_
          rotate_left
          · intro W hSW; go_simp; try with_reducible rfl
          try simp only [Act.put, List.setIfInBounds_toArray, List.set_cons_zero, List.set_cons_succ]
          refine wpAnyH_take (i := 5) (oi := ⟨_, _, _, _, _, _⟩) (v := ?_) rfl (by kernel_rfl) (by kernel_rfl) (by kernel_rfl) (fun _ _ _ h => h) (Or.inl ⟨by rfl, ?_⟩) (by assumption) ?_
          rotate_left
          · intro W hSW; refine exec_load_mid 39 (.tmp 85) ?_ ba (off + k * 4) ?_ o.cs _ (fun j v hj => (World.cell?_of_block (hSW.block ba (Nat.lt_of_lt_of_le hba hszd) hbaL)).trans (qo j v hj)) Try.underlying39 rfl Try.sizeOp <;> rfl
          try simp only [Act.put, List.setIfInBounds_toArray, List.set_cons_zero, List.set_cons_succ]
          refine wpAnyH_ready (rs := [1]) (by kernel_rfl) (by simp) ?_
          refine AllReadyH.cons (o := ⟨_, _, _, _, _, _⟩) rfl (fun K hK => ?_) AllReadyH.nil
          refine ite_yes rfl ?_
          refine wp_load_row 32 (.tmp 12) rfl N5 rfl 32 (rc vl vw d).toArray (0, 0) _ q7 Try.underlying32 rfl (rc_size _ rfl) ?_
          refine hK.out _ _ (S0) (fun hHeld => ?_)
          clear hK K
          try simp only [Act.put, List.setIfInBounds_toArray, List.set_cons_zero, List.set_cons_succ]
          refine wpAnyH_ready (rs := [6]) (by kernel_rfl) (by simp) ?_
          refine AllReadyH.cons (o := ⟨_, _, _, _, _, _⟩) rfl (fun K hK => ?_) AllReadyH.nil
          go_simp
          refine (do_any wd w.heap.size gt L vl vw d o Hok.out Hoks.out hwl hbd qD qR qap qop).mono ?_
          rintro e wB ⟨vl', vw', L', rfl, hDB, hRB, hbB, hLB, n1, n2, ha⟩
          have SB : But (N5 :: L) wd.heap.size wd wB := hbB.sub hsub
          try simp only []
          refine hK.out _ _ (SB) (fun hHeld => ?_)
          clear hK K
          try simp only [Act.put, List.setIfInBounds_toArray, List.set_cons_zero, List.set_cons_succ]
          have r7B := rowV_but q7 hbB hl7 hNL
          refine wpAnyH_take (i := 7) (oi := ⟨_, _, _, _, _, _⟩) (v := ?_) rfl (by kernel_rfl) (by kernel_rfl) (by kernel_rfl) (fun _ _ _ h => h) (Or.inl ⟨by rfl, ?_⟩) (by assumption) ?_
          rotate_left
          · intro W hSW; (try dsimp only at hSW); go_simp; try with_reducible rfl
          try simp only [Act.put, List.setIfInBounds_toArray, List.set_cons_zero, List.set_cons_succ]
          refine wpAnyH_take (i := 8) (oi := ⟨_, _, _, _, _, _⟩) (v := ?_) rfl (by kernel_rfl) (by kernel_rfl) (by kernel_rfl) (fun _ _ _ h => h) (Or.inl ⟨by rfl, ?_⟩) (by assumption) ?_
          rotate_left
          · intro W hSW; (try dsimp only at hSW); go_simp; try with_reducible rfl
          try simp only [Act.put, List.setIfInBounds_toArray, List.set_cons_zero, List.set_cons_succ]
          refine wpAnyH_take (i := 9) (oi := ⟨_, _, _, _, _, _⟩) (v := ?_) rfl (by kernel_rfl) (by kernel_rfl) (by kernel_rfl) (fun _ _ _ h => h) (Or.inl ⟨by rfl, ?_⟩) (by assumption) ?_
          rotate_left
          · intro W hSW; (try dsimp only at hSW); go_simp; try with_reducible rfl
          try simp only [Act.put, List.setIfInBounds_toArray, List.set_cons_zero, List.set_cons_succ]
          refine wpAnyH_ready (rs := [10]) (by kernel_rfl) (by simp) ?_
          refine AllReadyH.cons (o := ⟨_, _, _, _, _, _⟩) rfl (fun K hK => ?_) AllReadyH.nil
          refine ite_yes rfl ?_
          refine wp_store_rc (.tmp 12) (.tmp 88) rfl N5 (rc vl' vw' (d.act o)) (rc vl vw d) rfl rfl r7B rfl rfl (rc_all (own_one hRB.last) (own_one hRB.wait)) ?_
          intro wD hrD hgD hsD
          have SD : But (N5 :: L) wd.heap.size wd wD := SB.grown hgD (by intro k e; injection e with e; left; simp [e]) SB.size
          refine hK.out _ _ SD (fun hHeld => ?_)
          clear hK K
          try simp only [Act.put, List.setIfInBounds_toArray, List.set_cons_zero, List.set_cons_succ]
          refine wpAnyH_take (i := 11) (oi := ⟨_, _, _, _, _, _⟩) (v := ?_) rfl (by kernel_rfl) (by kernel_rfl) (by kernel_rfl) (fun _ _ _ h => h) (Or.inl ⟨by rfl, ?_⟩) (by assumption) ?_
          rotate_left
          · intro W hSW; (try dsimp only at hSW); go_simp; try with_reducible rfl
          try simp only [Act.put, List.setIfInBounds_toArray, List.set_cons_zero, List.set_cons_succ]
          refine wpAnyH_done (by kernel_rfl) ?_ _
          have HBn := Lib.hid (HB'.out.next (by omega) Hx.out hDB hRB hbB hLB ha r7B hrD hgD)
          have hWB : Below wq.heap.size wq wB := hWd.trans ((hbB.less hWd.size).below HLt.out)
          have HWD := Lib.hid (below_grown hWB hgD hN5w hWB.size)
          have HLD : Hid (∀ i ∈ L', wq.heap.size ≤ i) := fun i hi => (hLB i hi).elim (HLt.out i) (Nat.le_trans hWd.size ·)
          clear q7 qD qR qap qo qop hDB hRB hbB hLB ha r7B hgD SB SD hHeld hWd hWB HW HLt
          go_wp2_with fail
          go_roundw
          case rel => exact ⟨k + 1, L', vl', vw', d.act o, by omega, rfl, rfl, HBn, HWD, HLD⟩
          case measure => show m' - (k + 1) < m' - k; omega
        · obtain rfl : m' = k := by omega
          obtain ⟨L1, vl1, vw1, d1, hBd⟩ := HBd.out
          have HB1 := Lib.hid (hBd.below HW.out)
          clear hBd HBd
          have r1 := HB1.out.row
          have r2 := HB.out.row
          have x0 := r1.cell (i := 0) rfl
          have x1 := r1.cell (i := 1) rfl
          have x2 := r1.cell (i := 2) rfl
          have x3 := r1.cell (i := 3) rfl
          have x4 := r1.cell (i := 4) rfl
          have y0 := r2.cell (i := 0) rfl
          have y1 := r2.cell (i := 1) rfl
          have y2 := r2.cell (i := 2) rfl
          have y3 := r2.cell (i := 3) rfl
          have y4 := r2.cell (i := 4) rfl
          go_wp2_with fail
          refine (same_disk wr w.heap.size w.heap.size g L1 vl1 vw1 d1 HB1.out.ok HB1.out.disk HB1.out.ref).mono ?_
          rintro e wa ⟨rfl, hba⟩
          have HB2 := Lib.hid (HB.out.below hba)
          have r3 := HB2.out.row
          clear x0 x1 x2 x3 x4 y0 y1 y2 y3 y4 r1 r2
          have y0 := r3.cell (i := 0) rfl
          have y1 := r3.cell (i := 1) rfl
          have y2 := r3.cell (i := 2) rfl
          have y3 := r3.cell (i := 3) rfl
          have y4 := r3.cell (i := 4) rfl
          go_wp2_with fail
          refine (same_disk wa w.heap.size w.heap.size gt L vl vw d HB2.out.ok HB2.out.disk HB2.out.ref).mono ?_
          rintro e wb ⟨rfl, hbb⟩
          go_wp2_with fail
          refine (works_any wb).mono ?_
          rintro e wc ⟨rfl, hbc⟩
          go_wp2_with fail
          go_ret
          have hBe := HB2.out.bel.trans (hbb.mono HB2.out.hs)
          exact ⟨rfl, hBe.trans (hbc.mono hBe.size)⟩
end Go.Proofs.Ytamjkmelfpdhiaa
