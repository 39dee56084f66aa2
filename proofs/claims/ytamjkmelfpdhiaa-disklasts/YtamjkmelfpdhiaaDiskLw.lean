/-
  Layer 6: the walk of DiskDoes.
-/
import Derived.Test.YtamjkmelfpdhiaaDiskWk
namespace Go.Proofs.Ytamjkmelfpdhiaa
open Go.RowKit Go.Maps
set_option linter.unusedVariables false
set_option linter.unusedSimpArgs false

theorem Try.sizeOp : (Try.prog.info? 39).map (·.size) = some 4 := by kernel_rfl
/-- A disk and the reference's disk in the box at block b are the same one, d, behind k acts. -/
structure Both (w0 : World) (base b g : Nat) (W : World) (k : Nat) (L : List Nat) (vl vw : Value) (d : Dk) : Prop where
  row : RowV W b 32 (rc vl vw d)
  disk : Disk W base L g d
  ref : Ref W base vl vw d
  ap : Apart L vl vw
  ok : d.Ok
  steps : d.steps ≤ k
  wait : d.wait.length ≤ k
  nb : b ∉ L
  bel : Below base w0 W
  hb : base ≤ b
  hs : base ≤ W.heap.size
theorem Both.drew {w0 : World} {base b g k : Nat} {W : World} {L : List Nat} {vl vw : Value} {d : Dk} (h : Both w0 base b g W k L vl vw d) : Both w0 base b g W.drew k L vl vw d :=
  ⟨h.row, h.disk.drew, ⟨h.ref.last.drew, h.ref.wait.drew⟩, h.ap, h.ok, h.steps, h.wait, h.nb, h.bel.drew, h.hb, h.hs⟩
theorem Both.below {w0 : World} {base b g k : Nat} {W W' : World} {L : List Nat} {vl vw : Value} {d : Dk} (h : Both w0 base b g W k L vl vw d) (hb : Below W.heap.size W W') : Both w0 base b g W' k L vl vw d :=
  ⟨h.row.below h.row.lt hb, h.disk.below hb, h.ref.below hb, h.ap, h.ok, h.steps, h.wait, h.nb, h.bel.trans (hb.mono h.hs), h.hb, Nat.le_trans h.hs hb.size⟩
/-- One act more. -/
theorem Both.next {w0 wd wB wD : World} {base b g k : Nat} {L L' : List Nat} {vl vw vl' vw' : Value} {d : Dk} {o : OpV} (h : Both w0 base b g wd k L vl vw d) (hk : k < 1000000) (hx : o.at_ ≤ 9223372036854775807) (hDB : Disk wB base L' g (d.act o)) (hRB : Ref wB base vl' vw' (d.act o)) (hbB : But L wd.heap.size wd wB)
    (hLB : ∀ k ∈ L', k ∈ L ∨ wd.heap.size ≤ k) (ha : Apart L' vl' vw') (hrB : RowV wB b 32 (rc vl vw d)) (hrD : RowV wD b 32 (rc vl' vw' (d.act o))) (hgD : wB.grownBy wD (some b)) : Both w0 base b g wD (k + 1) L' vl' vw' (d.act o) := by
  obtain ⟨a1, a2, a3, _⟩ := act_ok (o := o) h.ok h.steps h.wait hk hx
  have hnb : b ∉ L' := fun hm => by
    rcases hLB b hm with h' | h'
    · exact h.nb h'
    · have := h.row.lt; omega
  have hBB : Below base w0 wB := h.bel.trans ((hbB.less h.hs).below (fun k hk => (h.disk.lt hk).1))
  refine ⟨hrD, hDB.but ((But.refl [b] _ wB).grown hgD (by intro k e; injection e with e; simp [e]) (Nat.le_refl _)) (fun k hk => ⟨(hDB.lt hk).2, by simp; rintro rfl; exact hnb hk⟩), ⟨hRB.last.kept hgD (.inr (own_row_apart hRB.last hrB (by decide))), hRB.wait.kept hgD (.inr (own_row_apart hRB.wait hrB (by decide)))⟩, ha, a1, a2, a3, hnb, below_grown hBB hgD h.hb (Nat.le_trans h.hs hbB.size), h.hb, Nat.le_trans h.hs (Nat.le_trans hbB.size hgD.size)⟩
/-- What an act keeps lies apart from a disk that the call made. -/
theorem OpsAt.bools {w W : World} {A : Option Addr} {l : List OpV} {base : Nat} {L : List Nat} {o : OpV} (h : OpsAt w w.heap.size A l) (ho : o ∈ l) (hl : lightB l = true) (hb : Below w.heap.size w W) (hL : ∀ k ∈ L, w.heap.size ≤ k) : Bools W L (.slice o.A o.keep.length o.c) o.keep := by
  obtain ⟨h1, h2, _⟩ := h.keeps o ho
  have h3 : o.keep.length ≤ 100 := by
    simp only [lightB, Bool.and_eq_true, List.all_eq_true, decide_eq_true_eq] at hl
    exact hl.2 o ho
  refine ⟨o.A, o.c, rfl, h2, by omega, (h1.below hb).le hb.size, fun hne a ha hm => ?_⟩
  obtain ⟨b, off, e, hlt, _⟩ := h1 (by simpa using hne)
  rw [ha] at e
  injection e with e
  subst e
  have h5 := hL _ hm
  have h6 : b < w.heap.size := hlt
  have h7 : w.heap.size ≤ b := h5
  omega
theorem light_len {l : List OpV} (h : lightB l = true) : l.length ≤ 80 := by
  simp only [lightB, Bool.and_eq_true, decide_eq_true_eq] at h
  exact h.1

set_option maxRecDepth 100000 in
set_option maxHeartbeats 8000000 in
theorem does_any (w : World) (x : Int) (A : Option Addr) (c : Nat) (l : List OpV) (h : OpsAt w w.heap.size A l) (hc : l.length ≤ c) :
    Calls Try.prog 3 #[.int .i64 x, .slice A l.length c] w fun e w' => e = .returned (.bool true) ∧ Below w.heap.size w w' := by
  have HO := Lib.hid h
  have Hc := Lib.hid hc
  clear h hc
  cases hlt : lightB l
  · go_enter Try.func3, Try.ntmps3
    go_wp2_with fail
    refine (light_any w w.heap.size A c l HO.out Hc.out).mono ?_
    rintro e w1 ⟨rfl, hww⟩
    rw [hww, hlt]
    go_wp2_with fail
    refine (works_any w).mono ?_
    rintro e w2 ⟨rfl, hb2⟩
    go_wp2_with fail
    go_ret
    exact ⟨rfl, hb2⟩
  by_cases hx40 : 40 < x
  · go_enter Try.func3, Try.ntmps3
    go_wp2_with fail
    refine (light_any w w.heap.size A c l HO.out Hc.out).mono ?_
    rintro e w1 ⟨rfl, hww⟩
    rw [hww, hlt]
    go_wp2_with fail
    refine (works_any w).mono ?_
    rintro e w2 ⟨rfl, hb2⟩
    go_wp2_with fail
    go_ret
    exact ⟨rfl, hb2⟩
  have hx40' : x ≤ 40 := by omega
  clear hx40
  have Hl := Lib.hid hlt
  have hm80 := light_len hlt
  by_cases hx1 : x < 1
  · go_enter Try.func3, Try.ntmps3
    go_wp2_with fail
    refine (light_any w w.heap.size A c l HO.out Hc.out).mono ?_
    rintro e w1 ⟨rfl, hww⟩
    rw [hww, hlt]
    clear hlt
    generalize l.length = m at *
    go_wp2_with fail
    refine (dnew_bad w x (.inl hx1)).mono ?_
    rintro e w2 ⟨rfl, hw2⟩
    rw [hw2]
    go_wp2_with fail
    refine (rnew_bad w x (.inl hx1)).mono ?_
    rintro e w3 ⟨rfl, hb3⟩
    go_wp2_with ((with_reducible refine at_alloc 32 ?_); refine wpList_alloc_rowV rfl 32 rfl rc0 Try.zeroR ?_)
    intro w4 hr4 hb4 hs4
    go_wp2_with ((with_reducible refine at_store 32 ?_); refine wpList_store_rowV rfl 32 _ _ rfl (w3.heap.size) (rc0) rfl rfl 32 (rc0) hr4 (rc_size _ rfl) rfl rc0_all ?_)
    intro w5 hr5 hg5 hs5
    have hB5 : Below w.heap.size w w5 := below_grown (hb3.trans (hb4.mono hb3.size)) hg5 hb3.size (by have := hb3.size; omega)
    clear hr4 hb4 hs4 hr5 hg5 hs5 hb3
    go_wp2_with fail
    go_loopw [9] (fun v W => v = .int .i64 0 ∧ Hid (Below w.heap.size w W)) (fun v _ => 0)
    case atStart => exact ⟨rfl, Lib.hid hB5⟩
    case round =>
      obtain ⟨rfl, HB⟩ := hrel
      go_wp2_with fail
      all_goals
        refine (works_any wr).mono ?_
        rintro e w6 ⟨rfl, hb6⟩
        go_wp2_with fail
        go_ret
        exact ⟨rfl, HB.out.trans (hb6.mono HB.out.size)⟩
  · obtain ⟨n, rfl⟩ := Int.eq_ofNat_of_zero_le (show 0 ≤ x by omega)
    have hn1 : 1 ≤ n := by omega
    have hn40 : n ≤ 40 := by omega
    go_enter Try.func3, Try.ntmps3
    go_wp2_with fail
    refine (light_any w w.heap.size A c l HO.out Hc.out).mono ?_
    rintro e w1 ⟨rfl, hww⟩
    rw [hww, hlt]
    clear hlt hww w1
    generalize hm : l.length = m at *
    have Hm := Lib.hid hm
    clear hm
    go_wp2_with fail
    refine (dnew_any w n hn1 (by omega)).mono ?_
    rintro e w2 ⟨g, L, rfl, hD2, hb2⟩
    go_wp2_with fail
    refine (rnew_any w2 n hn1 (by omega)).mono ?_
    rintro e w3 ⟨vl, rfl, ho3, hb3⟩
    have ov := own_one ho3
    go_wp2_with ((with_reducible refine at_alloc 32 ?_); refine wpList_alloc_rowV rfl 32 rfl rc0 Try.zeroR ?_)
    intro w4 hr4 hb4 hs4
    generalize hN0 : w3.heap.size = N0 at *
    go_wp2_with ((with_reducible refine at_store 32 ?_); refine wpList_store_rowV rfl 32 _ _ rfl (N0) (rc vl (.slice none 0 0) (Dk.new n)) rfl rfl 32 (rc0) hr4 (rc_size _ rfl) rfl (rc_all ov rfl) ?_)
    intro w5 hr5 hg5 hs5
    have hB3 : Below w.heap.size w w3 := hb2.trans (hb3.mono hb2.size)
    have hD3 := hD2.below hb3
    have hltL : ∀ k ∈ L, k < w2.heap.size := fun k hk => (hD2.lt hk).2
    have hsz : w.heap.size ≤ w2.heap.size := hb2.size
    have hsz3 : w2.heap.size ≤ N0 := by have := hb3.size; omega
    have hD4 := hD3.below (w' := w4) (by rw [hN0]; exact hb4)
    have hD5 : Disk w5 w.heap.size L g (Dk.new n) := hD4.but ((But.refl [N0] _ w4).grown hg5 (by intro k e; injection e with e; simp [e]) (Nat.le_refl _)) (fun k hk => ⟨by have := hltL k hk; omega, by simp; have := hltL k hk; omega⟩)
    have ho4 := own_below ho3 (w' := w4) (by rw [hN0]; exact hb4)
    have ho5 := ho4.kept hg5 (.inr (by intro e; have := (ho3.lt _ e).2; omega))
    have hB5 : Below w.heap.size w w5 := below_grown (hB3.trans (hb4.mono (by omega))) hg5 (by omega) (by omega)
    have hBoth : Both w w.heap.size N0 g w5 0 L vl (.slice none 0 0) (Dk.new n) :=
      ⟨hr5, hD5, ⟨own_rebase (by show World.ownsRow _ _ _ _ _ (List.replicate n zeroSec).length (secs (List.replicate n zeroSec)); rw [List.length_replicate]; exact ho5) fun k hk => by have := (ho5.lt k hk).1; omega, World.ownsRow_nil _ _ _ _⟩, fun k hk hm => by
        rcases hk with hk | hk
        · have := (ho5.lt k hk).1; have := hltL k hm; omega
        · simp [Value.ownBlock] at hk, new_ok hn1 (by omega), Nat.le_refl _, Nat.le_refl _, fun hm => by have := hltL _ hm; omega, hB5, by omega, hB5.size⟩
    clear hr4 hb4 hs4 hr5 hg5 hs5 hb3 hb2 hD2 ho3 ov hB3 hD3 hD4 hD5 ho4 ho5 hB5 hltL
    have HBoth := Lib.hid hBoth
    clear hBoth
    go_wp2_with fail
    go_loopw [9] (fun v W => ∃ (k : Nat) (L : List Nat) (vl vw : Value) (d : Dk), k ≤ m ∧ v = .int .i64 k ∧ Hid (Both w w.heap.size N0 g W k L vl vw d)) (fun v _ => m - (intOf v).toNat)
    case atStart => exact ⟨0, L, vl, _, _, Nat.zero_le _, rfl, HBoth⟩
    case round =>
      clear HBoth
      obtain ⟨k, L, vl, vw, d, hkm, rfl, HB⟩ := hrel
      by_cases hlt : k < m
      · obtain ⟨o, ho⟩ : ∃ o, l[k]? = some o := ⟨_, List.getElem?_eq_getElem (by rw [Hm.out]; omega)⟩
        obtain ⟨ba, off, rfl, hba, hro⟩ := HO.out.at_ ho
        have hlt' : (k : Int) < (m : Int) := by omega
        have hk0 : (0 : Int) ≤ (k : Int) := by omega
        have hB := HB.out.drew
        have qo : wr.drew.rangeAt ba (off + k * 4) o.cs := fun j v hj => (hB.bel.cell hba).trans (hro j v hj)
        have hLb : ∀ k ∈ L, w.heap.size ≤ k := fun k hk => (hB.disk.lt hk).1
        have qop : Bools wr.drew L (.slice o.A o.keep.length o.c) o.keep := HO.out.bools (base := 0) (List.mem_of_getElem? ho) Hl.out hB.bel hLb
        have Hx := Lib.hid (HO.out.keeps o (List.mem_of_getElem? ho)).2.2
        have hbaL : ba ∉ N0 :: L := by
          intro h'
          rcases List.mem_cons.1 h' with h' | h'
          · have := hB.hb; omega
          · have := hLb _ h'; omega
        have hszd : w.heap.size ≤ wr.drew.heap.size := hB.hs
        clear hro
        go_wp2_with fail
        refine wp_region_held_drew (S := fun W => But (N0 :: L) wr.drew.heap.size wr.drew W) (by kernel_rfl) (But.refl _ _ _) (fun hHeld => ?_)
        generalize wr.drew = wd at *
        have S0 : But (N0 :: L) wd.heap.size wd wd := But.refl _ _ _
        have hsub : ∀ k ∈ L, k ∈ N0 :: L := fun k hk => List.mem_cons_of_mem _ hk
        have q7 := hB.row
        have qD := hB.disk
        have qR := hB.ref
        have qap := hB.ap
        have Hok := Lib.hid hB.ok
        have Hoks := Lib.hid (hB.ok.stepped (by have := hB.steps; omega))
        have hwl : d.wait.length < 1000000 := by have := hB.wait; omega
        have hbd := hB.hs
        have hl7 := hB.row.lt
        have hNL := hB.nb
        have HB' := Lib.hid hB
        clear hB HB
        refine wpAnyH_take (i := 0) (oi := ⟨_, _, _, _, _, _⟩) (v := ?_) rfl (by kernel_rfl) (by kernel_rfl) (by kernel_rfl) (fun _ _ _ h => h) (Or.inl ⟨by rfl, ?_⟩) (by assumption) ?_
        rotate_left
        · intro W hSW; go_simp; try with_reducible rfl
        try simp only [Act.put, List.setIfInBounds_toArray, List.set_cons_zero, List.set_cons_succ]
        refine wpAnyH_take (i := 2) (oi := ⟨_, _, _, _, _, _⟩) (v := ?_) rfl (by kernel_rfl) (by kernel_rfl) (by kernel_rfl) (fun _ _ _ h => h) (Or.inl ⟨by rfl, ?_⟩) (by assumption) ?_
        rotate_left
        · intro W hSW; go_simp; try with_reducible rfl
        try simp only [Act.put, List.setIfInBounds_toArray, List.set_cons_zero, List.set_cons_succ]
        refine wpAnyH_take (i := 3) (oi := ⟨_, _, _, _, _, _⟩) (v := ?_) rfl (by kernel_rfl) (by kernel_rfl) (by kernel_rfl) (fun _ _ _ h => h) (Or.inl ⟨by rfl, ?_⟩) (by assumption) ?_
        rotate_left
        · intro W hSW; go_simp; try with_reducible rfl
        try simp only [Act.put, List.setIfInBounds_toArray, List.set_cons_zero, List.set_cons_succ]
        refine wpAnyH_take (i := 4) (oi := ⟨_, _, _, _, _, _⟩) (v := ?_) rfl (by kernel_rfl) (by kernel_rfl) (by kernel_rfl) (fun _ _ _ h => h) (Or.inl ⟨by rfl, ?_⟩) (by assumption) ?_
        rotate_left
        · intro W hSW; go_simp; try with_reducible rfl
        try simp only [Act.put, List.setIfInBounds_toArray, List.set_cons_zero, List.set_cons_succ]
        refine wpAnyH_take (i := 5) (oi := ⟨_, _, _, _, _, _⟩) (v := ?_) rfl (by kernel_rfl) (by kernel_rfl) (by kernel_rfl) (fun _ _ _ h => h) (Or.inl ⟨by rfl, ?_⟩) (by assumption) ?_
        rotate_left
        · intro W hSW; refine exec_load_mid 39 (.tmp 54) ?_ ba (off + k * 4) ?_ o.cs _ (fun j v hj => (World.cell?_of_block (hSW.block ba (Nat.lt_of_lt_of_le hba hszd) hbaL)).trans (qo j v hj)) Try.underlying39 rfl Try.sizeOp <;> rfl
        try simp only [Act.put, List.setIfInBounds_toArray, List.set_cons_zero, List.set_cons_succ]
        refine wpAnyH_ready (rs := [1]) (by kernel_rfl) (by simp) ?_
        refine AllReadyH.cons (o := ⟨_, _, _, _, _, _⟩) rfl (fun K hK => ?_) AllReadyH.nil
        refine ite_yes rfl ?_
        refine wp_load_row 32 (.tmp 7) rfl N0 rfl 32 (rc vl vw d).toArray (0, 0) _ q7 Try.underlying32 rfl (rc_size _ rfl) ?_
        refine hK.out _ _ (S0) (fun hHeld => ?_)
        clear hK K
        try simp only [Act.put, List.setIfInBounds_toArray, List.set_cons_zero, List.set_cons_succ]
        refine wpAnyH_ready (rs := [6]) (by kernel_rfl) (by simp) ?_
        refine AllReadyH.cons (o := ⟨_, _, _, _, _, _⟩) rfl (fun K hK => ?_) AllReadyH.nil
        go_simp
        refine (do_any wd w.heap.size g L vl vw d o Hok.out Hoks.out hwl hbd qD qR qap qop).mono ?_
        rintro e wB ⟨vl', vw', L', rfl, hDB, hRB, hbB, hLB, n1, n2, ha⟩
        have SB : But (N0 :: L) wd.heap.size wd wB := hbB.sub hsub
        try simp only []
        refine hK.out _ _ (SB) (fun hHeld => ?_)
        clear hK K
        try simp only [Act.put, List.setIfInBounds_toArray, List.set_cons_zero, List.set_cons_succ]
        have r7B := rowV_but q7 hbB hl7 hNL
        refine wpAnyH_take (i := 7) (oi := ⟨_, _, _, _, _, _⟩) (v := ?_) rfl (by kernel_rfl) (by kernel_rfl) (by kernel_rfl) (fun _ _ _ h => h) (Or.inl ⟨by rfl, ?_⟩) (by assumption) ?_
        rotate_left
        · intro W hSW; (try dsimp only at hSW); go_simp; try with_reducible rfl
        try simp only [Act.put, List.setIfInBounds_toArray, List.set_cons_zero, List.set_cons_succ]
        refine wpAnyH_take (i := 8) (oi := ⟨_, _, _, _, _, _⟩) (v := ?_) rfl (by kernel_rfl) (by kernel_rfl) (by kernel_rfl) (fun _ _ _ h => h) (Or.inl ⟨by rfl, ?_⟩) (by assumption) ?_
        rotate_left
        · intro W hSW; (try dsimp only at hSW); go_simp; try with_reducible rfl
        try simp only [Act.put, List.setIfInBounds_toArray, List.set_cons_zero, List.set_cons_succ]
        refine wpAnyH_take (i := 9) (oi := ⟨_, _, _, _, _, _⟩) (v := ?_) rfl (by kernel_rfl) (by kernel_rfl) (by kernel_rfl) (fun _ _ _ h => h) (Or.inl ⟨by rfl, ?_⟩) (by assumption) ?_
        rotate_left
        · intro W hSW; (try dsimp only at hSW); go_simp; try with_reducible rfl
        try simp only [Act.put, List.setIfInBounds_toArray, List.set_cons_zero, List.set_cons_succ]
        refine wpAnyH_ready (rs := [10]) (by kernel_rfl) (by simp) ?_
        refine AllReadyH.cons (o := ⟨_, _, _, _, _, _⟩) rfl (fun K hK => ?_) AllReadyH.nil
        refine ite_yes rfl ?_
        refine wp_store_rc (.tmp 7) (.tmp 57) rfl N0 (rc vl' vw' (d.act o)) (rc vl vw d) rfl rfl r7B rfl rfl (rc_all (own_one hRB.last) (own_one hRB.wait)) ?_
        intro wD hrD hgD hsD
        have SD : But (N0 :: L) wd.heap.size wd wD := SB.grown hgD (by intro k e; injection e with e; left; simp [e]) SB.size
        refine hK.out _ _ SD (fun hHeld => ?_)
        clear hK K
        try simp only [Act.put, List.setIfInBounds_toArray, List.set_cons_zero, List.set_cons_succ]
        refine wpAnyH_take (i := 11) (oi := ⟨_, _, _, _, _, _⟩) (v := ?_) rfl (by kernel_rfl) (by kernel_rfl) (by kernel_rfl) (fun _ _ _ h => h) (Or.inl ⟨by rfl, ?_⟩) (by assumption) ?_
        rotate_left
        · intro W hSW; (try dsimp only at hSW); go_simp; try with_reducible rfl
        try simp only [Act.put, List.setIfInBounds_toArray, List.set_cons_zero, List.set_cons_succ]
        refine wpAnyH_done (by kernel_rfl) ?_ _
        have HBn := Lib.hid (HB'.out.next (by omega) Hx.out hDB hRB hbB hLB ha r7B hrD hgD)
        clear q7 qD qR qap qo qop hDB hRB hbB hLB ha r7B hgD SB SD hHeld
        have z0 := hrD.cell (i := 0) rfl
        have z1 := hrD.cell (i := 1) rfl
        have z2 := hrD.cell (i := 2) rfl
        have z3 := hrD.cell (i := 3) rfl
        have z4 := hrD.cell (i := 4) rfl
        go_wp2_with fail
        refine (same_disk wD w.heap.size w.heap.size g L' vl' vw' (d.act o) HBn.out.ok HBn.out.disk HBn.out.ref).mono ?_
        rintro e wE ⟨rfl, hbE⟩
        go_wp2_with fail
        go_roundw
        case rel => exact ⟨k + 1, L', vl', vw', d.act o, by omega, rfl, Lib.hid (HBn.out.below hbE)⟩
        case measure => show m - (k + 1) < m - k; omega
      · obtain rfl : k = m := by omega
        go_wp2_with fail
        refine (works_any wr).mono ?_
        rintro e w6 ⟨rfl, hb6⟩
        go_wp2_with fail
        go_ret
        exact ⟨rfl, HB.out.bel.trans (hb6.mono HB.out.hs)⟩
end Go.Proofs.Ytamjkmelfpdhiaa
