/-
  Layer 6: what an act makes of a disk ('Dk.act'), and the contract of do: writes.
-/
import Derived.Test.YtamjkmelfpdhiaaDiskOp
import Derived.Deep.Cut
import Derived.Deep.RegionHeld3
namespace Go.Proofs.Ytamjkmelfpdhiaa
open Go.RowKit Go.Maps
set_option linter.unusedVariables false
set_option linter.unusedSimpArgs false

def Dk.act (d : Dk) (o : OpV) : Dk :=
  if o.kind = 0 ∨ o.kind = 1 then (d.write o.at_ (fillSec o.b)).1 else if o.kind = 3 then d.flush.1 else if o.kind = 4 then (d.crash o.keep).1 else if o.kind = 5 then d.setFuse o.at_ else d
/-- The rows of the reference's disk lie apart from the blocks of L. -/
def Apart (L : List Nat) (vl vw : Value) : Prop := ∀ k, vl.ownBlock = some k ∨ vw.ownBlock = some k → k ∉ L
/-- What do leaves: both disks are the same one, d'. -/
def Did (w : World) (base : Nat) (L : List Nat) (g : Nat) (vl vw : Value) (d' : Dk) (e : Ending) (w' : World) : Prop :=
  ∃ vl' vw' L', e = .returned (.tuple #[.agg (rc vl' vw' d').toArray, .bool true]) ∧ Disk w' base L' g d' ∧ Ref w' base vl' vw' d' ∧ But L w.heap.size w w' ∧ (∀ k ∈ L', k ∈ L ∨ w.heap.size ≤ k) ∧ Newer w vl vl' ∧ Newer w vw vw' ∧ Apart L' vl' vw'
theorem Newer.less {w w0 : World} {v v' : Value} (h : Newer w v v') (hs : w0.heap.size ≤ w.heap.size) : Newer w0 v v' := fun k hk => (h k hk).imp id (fun h => Nat.le_trans hs h)
theorem op_one (o : OpV) : o.cs.toArray.all (·.oneCell') = true := by simp [OpV.cs, Value.oneCell']
theorem row_range {w : World} {g : Nat} {t : TypeId} {cs : List Value} (h : RowV w g t cs) : w.rangeAt g 0 cs := fun j v hj => by rw [Nat.zero_add]; exact h.cell hj
/-- A load of the reference's disk. -/
theorem exec_rc {W : World} {ρ : Operand → Value} {o : Oper} (x : Operand) (ho : o.op = .load 32 x) (b : Nat) (hx : ρ x = .pointer (some ⟨b, 0, none⟩)) (cs : List Value) (hl : cs.length = 5) (hc : RowV W b 32 cs) : (execOp ρ o).run Try.prog W = .ok (.value (.agg cs.toArray)) W :=
  exec_load_mid 32 x ho b 0 hx cs _ (row_range hc) Try.underlying32 rfl (by rw [hl]; exact Try.sizeR)
theorem wp_alloc_rc {o : Oper} {a : Act} {w : World} {K : Act → World → Prop} {Q : Exit → Act → World → Prop} (ho : o.op = .alloc 32)
    (h : ∀ w', RowV w' w.heap.size 32 rc0 → Below w.heap.size w w' → w'.heap.size = w.heap.size + 1 → K (a.put o.dst (.pointer (some ⟨w.heap.size, 0, none⟩))) w') : o.wp Try.prog a w K Q := by
  obtain ⟨i, hi, hz'⟩ := Option.bind_eq_some_iff.1 Try.zeroR
  have hr : (Instr.alloc 32 true (.tuple #[])).run Try.prog w = .ok (.pointer (some ⟨w.heap.size, 0, none⟩)) (w.alloc (.cells rc0.toArray 32)) := by
    simp [Instr.alloc, zeroValue, typeInfo, hi, hz', newVar, newRow, Value.cells]
  unfold Oper.wp
  simp only [execOp, ho, Sem.run_bind, hr, Result.andThen_ok]
  exact h _ (RowV.new w 32 rc0) ((Below.refl _ _).alloc (Nat.le_refl _) _) (by simp)
theorem wp_store_rc {o : Oper} {a : Act} {w : World} {K : Act → World → Prop} {Q : Exit → Act → World → Prop} (x y : Operand) (ho : o.op = .store 32 x y) (g : Nat) (cs old : List Value) (hx : a.eval x = .pointer (some ⟨g, 0, none⟩)) (hy : a.eval y = .agg cs.toArray)
    (hg : RowV w g 32 old) (hl : cs.length = 5) (hlo : old.length = 5) (h1 : cs.toArray.all (·.oneCell') = true)
    (h : ∀ w', RowV w' g 32 cs → w.grownBy w' (some g) → w'.heap.size = w.heap.size → K (a.put o.dst undef) w') : o.wp Try.prog a w K Q :=
  wp_store_row 32 x y ho g cs.toArray hx hy 32 old.toArray hg (rc_size cs hl) (by rw [List.size_toArray, List.size_toArray, hl, hlo]) h1 (h _ (hg.put cs) ⟨rfl, rfl, rfl, by simp, fun k _ hk => setRow_other w g k _ (fun e => hk (by rw [e]))⟩ (by simp))
theorem But.sub {L M : List Nat} {B : Nat} {w w' : World} (h : But L B w w') (hL : ∀ k ∈ L, k ∈ M) : But M B w w' := h.mono (Nat.le_refl _) (fun k _ hk => hL k hk)

theorem did_of {w wB wD : World} {base g N2 : Nat} {L L' : List Nat} {vl vw vl' vw' : Value} {d' : Dk} {old : List Value} (hBB : But L w.heap.size w wB) (hN : w.heap.size ≤ N2) (hrow : RowV wB N2 32 old) (hgD : wB.grownBy wD (some N2)) (hDB : Disk wB base L' g d') (hRB : Ref wB base vl' vw' d')
    (hL : ∀ k ∈ L', k ∈ L ∨ w.heap.size ≤ k) (hN2 : N2 ∉ L') (n1 : Newer w vl vl') (n2 : Newer w vw vw') (ha : Apart L' vl' vw') : Did w base L g vl vw d' (.returned (.tuple #[.agg (rc vl' vw' d').toArray, .bool true])) wD :=
  ⟨vl', vw', L', rfl, hDB.but ((But.refl [N2] _ wB).grown hgD (by intro k e; injection e with e; simp [e]) (Nat.le_refl _)) (fun k hk => ⟨(hDB.lt hk).2, by simp; rintro rfl; exact hN2 hk⟩),
    ⟨hRB.last.kept hgD (.inr (own_row_apart hRB.last hrow (by decide))), hRB.wait.kept hgD (.inr (own_row_apart hRB.wait hrow (by decide)))⟩, hBB.grown hgD (by intro k e; injection e with e; right; omega) hBB.size, hL, n1, n2, ha⟩
theorem apart_newer {w : World} {L : List Nat} {vl vw v v' : Value} (hap : Apart L vl vw) (hv : v = vl ∨ v = vw) (hL : ∀ k ∈ L, k < w.heap.size) (hn : Newer w v v') : ∀ k, v'.ownBlock = some k → k ∉ L := by
  intro k hk hm
  rcases hn k hk with h | h
  · rcases hv with rfl | rfl
    · exact hap k (.inl h) hm
    · exact hap k (.inr h) hm
  · have := hL k hm; omega

set_option maxRecDepth 100000 in
set_option maxHeartbeats 8000000 in
theorem do_write (w : World) (base g : Nat) (L : List Nat) (vl vw : Value) (d : Dk) (o : OpV) (hk : d.Ok) (hks : d.stepped.Ok) (hw : d.wait.length < 1000000) (hb : base ≤ w.heap.size) (hD : Disk w base L g d) (hR : Ref w base vl vw d) (hap : Apart L vl vw) (h01 : o.kind = 0 ∨ o.kind = 1) : Calls Try.prog 10 #[.pointer (some ⟨g, 0, none⟩), .agg (rc vl vw d).toArray, .agg o.cs.toArray] w (Did w base L g vl vw (d.act o)) := by
  have Hact : Hid (d.act o = (d.write o.at_ (fillSec o.b)).1) := by show _ = _; simp [Dk.act, h01]
  have o1 := own_one hR.last
  have o2 := own_one hR.wait
  have HD := Lib.hid hD
  have HR := Lib.hid hR
  have Hk := Lib.hid hk
  have Hap := Lib.hid hap
  clear hD hR hk hap
  go_enter Try.func10, Try.ntmps10
  go_wp2_with ((with_reducible refine at_box 32 ?_); refine wpList_box_rowV rfl 32 _ rfl (rc vl vw d) rfl ?_)
  intro w1 hr1 hb1 hs1
  go_wp2_with ((with_reducible refine at_box 39 ?_); refine wpList_box_rowV rfl 39 _ rfl o.cs rfl ?_)
  intro w2 hr2 hb2 hs2
  go_wp2_with ((with_reducible refine at_alloc 32 ?_); refine wpList_alloc_rowV rfl 32 rfl rc0 Try.zeroR ?_)
  intro w3 hr3 hb3 hs3
  have hr13 := (hr1.below (by omega) hb2).below (by omega) hb3
  have hr23 := hr2.below (by omega) hb3
  have hB3 : Below w.heap.size w w3 := hb1.trans ((hb2.mono (by omega)).trans (hb3.mono (by omega)))
  have hlt1 : w.heap.size < w.heap.size + 1 := by omega
  have hlt2 : w.heap.size + 1 < w.heap.size + 1 + 1 := by omega
  have hsz3 : w.heap.size + 1 + 1 < w3.heap.size := by omega
  clear hr1 hb1 hs1 hr2 hb2 hs2 hb3 hs3
  generalize hN2 : w.heap.size + 1 + 1 = N2 at *
  generalize hN1 : w.heap.size + 1 = N1 at *
  clear hN2 hN1
  have hD3 := HD.out.below hB3
  have hR3 := HR.out.below hB3
  have k0 := hr23.cell (i := 0) rfl
  have k1 := hr23.cell (i := 1) rfl
  have k2 := hr23.cell (i := 2) rfl
  have k3 := hr23.cell (i := 3) rfl
  rcases h01 with h0 | h0
  all_goals
    rw [h0] at k0
    have Hk0 := Lib.hid h0
    clear h0
    go_wp2_with fail
    generalize hx : o.at_ = x at *
    generalize hs : fillSec o.b = s at *
    go_cut [8, 9] from 18 (fun s8 s9 W => ∃ N3 vl' vw', s8 = .pointer (some ⟨N3, 0, none⟩) ∧ s9 = .int .i64 (d.write x s).2 ∧ w3.heap.size ≤ N3 ∧ N3 < W.heap.size ∧ Hid (RowV W N3 32 (rc vl' vw' (d.write x s).1)) ∧ Hid (Ref W base vl' vw' (d.write x s).1) ∧ Hid (Below w3.heap.size w3 W) ∧ Hid (Newer w3 vl vl') ∧ Hid (Newer w3 vw vw') ∧ Hid (vl'.oneCell' = true) ∧ Hid (vw'.oneCell' = true))
    case first =>
      have hbw : base ≤ w3.drew.heap.size := Nat.le_trans hb hB3.size
      have r1 : RowV w3.drew w.heap.size 32 (rc vl vw d) := hr13
      have r2 : RowV w3.drew N1 39 o.cs := hr23
      have hRd : Ref w3.drew base vl vw d := ⟨hR3.last.drew, hR3.wait.drew⟩
      have hb0 : Below w3.heap.size w3 w3.drew := (Below.refl _ _).drew
      have hszd : w3.heap.size ≤ w3.drew.heap.size := Nat.le_refl _
      have hl1 : w.heap.size < w3.drew.heap.size := by show _ < w3.heap.size; omega
      have hl2 : N1 < w3.drew.heap.size := by show _ < w3.heap.size; omega
      refine wp_region_held_drew (S := fun W => Below w3.drew.heap.size w3.drew W) (by kernel_rfl) (Below.refl _ _) (fun hHeld => ?_)
      clear k0 k1 k2 k3 hr13 hr23 hr3 hD3 hR3
      generalize w3.drew = wd at *
      have S0 : Below wd.heap.size wd wd := Below.refl _ _
      refine wpAnyH_take (i := 0) (oi := ⟨_, _, _, _, _, _⟩) (v := ?_) rfl (by kernel_rfl) (by kernel_rfl) (by kernel_rfl) (fun _ _ _ h => h) (Or.inl ⟨by rfl, ?_⟩) (by assumption) ?_
      rotate_left
      · intro W hSW; refine exec_rc (.tmp 4) ?_ w.heap.size ?_ (rc vl vw d) rfl (r1.below hl1 hSW) <;> rfl
      try simp only [Act.put, List.setIfInBounds_toArray, List.set_cons_zero, List.set_cons_succ]
      refine wpAnyH_take (i := 1) (oi := ⟨_, _, _, _, _, _⟩) (v := ?_) rfl (by kernel_rfl) (by kernel_rfl) (by kernel_rfl) (fun _ _ _ h => h) (Or.inl ⟨by rfl, ?_⟩) (by assumption) ?_
      rotate_left
      · intro W hSW; go_simp; try with_reducible rfl
      try simp only [Act.put, List.setIfInBounds_toArray, List.set_cons_zero, List.set_cons_succ]
      refine wpAnyH_take (i := 2) (oi := ⟨_, _, _, _, _, _⟩) (v := ?_) rfl (by kernel_rfl) (by kernel_rfl) (by kernel_rfl) (fun _ _ _ h => h) (Or.inl ⟨by rfl, ?_⟩) (by assumption) ?_
      rotate_left
      · intro W hSW; have kk := (r2.below hl2 hSW).cell (i := 1) rfl; rw [hx] at kk; go_simp; try with_reducible rfl
      try simp only [Act.put, List.setIfInBounds_toArray, List.set_cons_zero, List.set_cons_succ]
      refine wpAnyH_take (i := 3) (oi := ⟨_, _, _, _, _, _⟩) (v := ?_) rfl (by kernel_rfl) (by kernel_rfl) (by kernel_rfl) (fun _ _ _ h => h) (Or.inl ⟨by rfl, ?_⟩) (by assumption) ?_
      rotate_left
      · intro W hSW; go_simp; try with_reducible rfl
      try simp only [Act.put, List.setIfInBounds_toArray, List.set_cons_zero, List.set_cons_succ]
      refine wpAnyH_take (i := 4) (oi := ⟨_, _, _, _, _, _⟩) (v := ?_) rfl (by kernel_rfl) (by kernel_rfl) (by kernel_rfl) (fun _ _ _ h => h) (Or.inl ⟨by rfl, ?_⟩) (by assumption) ?_
      rotate_left
      · intro W hSW; have kk := (r2.below hl2 hSW).cell (i := 2) rfl; go_simp; try with_reducible rfl
      try simp only [Act.put, List.setIfInBounds_toArray, List.set_cons_zero, List.set_cons_succ]
      refine wpAnyH_ready (rs := [5, 10]) (by kernel_rfl) (by simp) ?_
      refine AllReadyH.cons (o := ⟨_, _, _, _, _, _⟩) rfl (fun K hK => ?_) (AllReadyH.cons (o := ⟨_, _, _, _, _, _⟩) rfl (fun K hK => ?_) AllReadyH.nil)
      · go_simp
        refine (filled_any _ o.b).mono ?_
        rintro e wA ⟨rfl, hbA⟩
        rw [hs]
        have SA : Below wd.heap.size wd wA := S0.trans (hbA.mono S0.size)
        try simp only []
        refine hK.out _ _ (SA) (fun hHeld => ?_)
        clear hK K
        try simp only [Act.put, List.setIfInBounds_toArray, List.set_cons_zero, List.set_cons_succ]
        refine wpAnyH_ready (rs := [6, 10]) (by kernel_rfl) (by simp) ?_
        refine AllReadyH.cons (o := ⟨_, _, _, _, _, _⟩) rfl (fun K hK => ?_) (AllReadyH.cons (o := ⟨_, _, _, _, _, _⟩) rfl (fun K hK => ?_) AllReadyH.nil)
        · go_simp
          refine (rput_any _ base vl vw d x s Hk.out hw (Nat.le_trans hbw SA.size) (hRd.below SA)).mono ?_
          rintro e wB ⟨vl', vw', rfl, hRB, hbB, hn1, hn2⟩
          have SB : Below wd.heap.size wd wB := SA.trans (hbB.mono SA.size)
          have N1' : Newer wd vl vl' := hn1.less SA.size
          have N2' : Newer wd vw vw' := hn2.less SA.size
          try simp only []
          refine hK.out _ _ (SB) (fun hHeld => ?_)
          clear hK K
          try simp only [Act.put, List.setIfInBounds_toArray, List.set_cons_zero, List.set_cons_succ]
          refine wpAnyH_take (i := 7) (oi := ⟨_, _, _, _, _, _⟩) (v := ?_) rfl (by kernel_rfl) (by kernel_rfl) (by kernel_rfl) (fun _ _ _ h => h) (Or.inl ⟨by rfl, ?_⟩) (by assumption) ?_
          rotate_left
          · intro W hSW; (try dsimp only at hSW); go_simp; try with_reducible rfl
          try simp only [Act.put, List.setIfInBounds_toArray, List.set_cons_zero, List.set_cons_succ]
          refine wpAnyH_take (i := 8) (oi := ⟨_, _, _, _, _, _⟩) (v := ?_) rfl (by kernel_rfl) (by kernel_rfl) (by kernel_rfl) (fun _ _ _ h => h) (Or.inl ⟨by rfl, ?_⟩) (by assumption) ?_
          rotate_left
          · intro W hSW; (try dsimp only at hSW); go_simp; try with_reducible rfl
          try simp only [Act.put, List.setIfInBounds_toArray, List.set_cons_zero, List.set_cons_succ]
          refine wpAnyH_take (i := 9) (oi := ⟨_, _, _, _, _, _⟩) (v := ?_) rfl (by kernel_rfl) (by kernel_rfl) (by kernel_rfl) (fun _ _ _ h => h) (Or.inl ⟨by rfl, ?_⟩) (by assumption) ?_
          rotate_left
          · intro W hSW; (try dsimp only at hSW); go_simp; try with_reducible rfl
          try simp only [Act.put, List.setIfInBounds_toArray, List.set_cons_zero, List.set_cons_succ]
          refine wpAnyH_ready (rs := [10]) (by kernel_rfl) (by simp) ?_
          refine AllReadyH.cons (o := ⟨_, _, _, _, _, _⟩) rfl (fun K hK => ?_) AllReadyH.nil
          refine ite_yes rfl ?_
          refine wp_alloc_rc rfl ?_
          intro wC hrC hbC hsC
          have SC : Below wd.heap.size wd wC := SB.trans (hbC.mono SB.size)
          refine hK.out _ _ (SC) (fun hHeld => ?_)
          clear hK K
          try simp only [Act.put, List.setIfInBounds_toArray, List.set_cons_zero, List.set_cons_succ]
          have hRC := hRB.below hbC
          have hap1 := own_row_apart hRC.last hrC (by decide)
          have hap2 := own_row_apart hRC.wait hrC (by decide)
          refine wpAnyH_ready (rs := [11]) (by kernel_rfl) (by simp) ?_
          refine AllReadyH.cons (o := ⟨_, _, _, _, _, _⟩) rfl (fun K hK => ?_) AllReadyH.nil
          refine ite_yes rfl ?_
          refine wp_store_rc (.tmp 8) (.tmp 31) rfl wB.heap.size (rc vl' vw' (d.write x s).1) rc0 rfl rfl hrC rfl rfl (rc_all (own_one hRC.last) (own_one hRC.wait)) ?_
          intro wD hrD hgD hsD
          have hlt3 : wB.heap.size < wD.heap.size := hrD.lt
          have hge3 : wd.heap.size ≤ wB.heap.size := by
            first | exact Nat.le_refl _ | exact SA.size | exact SB.size
          have SD : Below wd.heap.size wd wD := below_grown SC hgD hge3 SC.size
          refine hK.out _ _ SD (fun hHeld => ?_)
          clear hK K
          try simp only [Act.put, List.setIfInBounds_toArray, List.set_cons_zero, List.set_cons_succ]
          refine wpAnyH_take (i := 12) (oi := ⟨_, _, _, _, _, _⟩) (v := ?_) rfl (by kernel_rfl) (by kernel_rfl) (by kernel_rfl) (fun _ _ _ h => h) (Or.inl ⟨by rfl, ?_⟩) (by assumption) ?_
          rotate_left
          · intro W hSW; (try dsimp only at hSW); go_simp; try with_reducible rfl
          try simp only [Act.put, List.setIfInBounds_toArray, List.set_cons_zero, List.set_cons_succ]
          refine wpAnyH_done (by kernel_rfl) ?_ _
          go_wp2_with fail
          go_meet
          case rel => exact ⟨wB.heap.size, vl', vw', rfl, rfl, Nat.le_trans hszd hge3, hlt3, Lib.hid hrD, Lib.hid ⟨hRC.last.kept hgD (.inr hap1), hRC.wait.kept hgD (.inr hap2)⟩, Lib.hid (hb0.trans (SD.mono hszd)), Lib.hid (N1'.less hszd), Lib.hid (N2'.less hszd), Lib.hid (own_one hRC.last), Lib.hid (own_one hRC.wait)⟩
        · refine ite_yes rfl ?_
          refine wp_alloc_rc rfl ?_
          intro wC hrC hbC hsC
          have SC : Below wd.heap.size wd wC := SA.trans (hbC.mono SA.size)
          refine hK.out _ _ (SC) (fun hHeld => ?_)
          clear hK K
          try simp only [Act.put, List.setIfInBounds_toArray, List.set_cons_zero, List.set_cons_succ]
          refine wpAnyH_ready (rs := [6]) (by kernel_rfl) (by simp) ?_
          refine AllReadyH.cons (o := ⟨_, _, _, _, _, _⟩) rfl (fun K hK => ?_) AllReadyH.nil
          go_simp
          refine (rput_any _ base vl vw d x s Hk.out hw (Nat.le_trans hbw SC.size) (hRd.below SC)).mono ?_
          rintro e wB ⟨vl', vw', rfl, hRB, hbB, hn1, hn2⟩
          have SB : Below wd.heap.size wd wB := SC.trans (hbB.mono SC.size)
          have N1' : Newer wd vl vl' := hn1.less SC.size
          have N2' : Newer wd vw vw' := hn2.less SC.size
          try simp only []
          refine hK.out _ _ (SB) (fun hHeld => ?_)
          clear hK K
          try simp only [Act.put, List.setIfInBounds_toArray, List.set_cons_zero, List.set_cons_succ]
          have hrB := hrC.below (by omega) hbB
          refine wpAnyH_take (i := 7) (oi := ⟨_, _, _, _, _, _⟩) (v := ?_) rfl (by kernel_rfl) (by kernel_rfl) (by kernel_rfl) (fun _ _ _ h => h) (Or.inl ⟨by rfl, ?_⟩) (by assumption) ?_
          rotate_left
          · intro W hSW; (try dsimp only at hSW); go_simp; try with_reducible rfl
          try simp only [Act.put, List.setIfInBounds_toArray, List.set_cons_zero, List.set_cons_succ]
          refine wpAnyH_take (i := 8) (oi := ⟨_, _, _, _, _, _⟩) (v := ?_) rfl (by kernel_rfl) (by kernel_rfl) (by kernel_rfl) (fun _ _ _ h => h) (Or.inl ⟨by rfl, ?_⟩) (by assumption) ?_
          rotate_left
          · intro W hSW; (try dsimp only at hSW); go_simp; try with_reducible rfl
          try simp only [Act.put, List.setIfInBounds_toArray, List.set_cons_zero, List.set_cons_succ]
          refine wpAnyH_take (i := 9) (oi := ⟨_, _, _, _, _, _⟩) (v := ?_) rfl (by kernel_rfl) (by kernel_rfl) (by kernel_rfl) (fun _ _ _ h => h) (Or.inl ⟨by rfl, ?_⟩) (by assumption) ?_
          rotate_left
          · intro W hSW; (try dsimp only at hSW); go_simp; try with_reducible rfl
          try simp only [Act.put, List.setIfInBounds_toArray, List.set_cons_zero, List.set_cons_succ]
          have hap1 := own_row_apart hRB.last hrB (by decide)
          have hap2 := own_row_apart hRB.wait hrB (by decide)
          refine wpAnyH_ready (rs := [11]) (by kernel_rfl) (by simp) ?_
          refine AllReadyH.cons (o := ⟨_, _, _, _, _, _⟩) rfl (fun K hK => ?_) AllReadyH.nil
          refine ite_yes rfl ?_
          refine wp_store_rc (.tmp 8) (.tmp 31) rfl wA.heap.size (rc vl' vw' (d.write x s).1) rc0 rfl rfl hrB rfl rfl (rc_all (own_one hRB.last) (own_one hRB.wait)) ?_
          intro wD hrD hgD hsD
          have hlt3 : wA.heap.size < wD.heap.size := hrD.lt
          have hge3 : wd.heap.size ≤ wA.heap.size := by
            first | exact Nat.le_refl _ | exact SA.size | exact SB.size
          have SD : Below wd.heap.size wd wD := below_grown SB hgD hge3 SB.size
          refine hK.out _ _ SD (fun hHeld => ?_)
          clear hK K
          try simp only [Act.put, List.setIfInBounds_toArray, List.set_cons_zero, List.set_cons_succ]
          refine wpAnyH_take (i := 12) (oi := ⟨_, _, _, _, _, _⟩) (v := ?_) rfl (by kernel_rfl) (by kernel_rfl) (by kernel_rfl) (fun _ _ _ h => h) (Or.inl ⟨by rfl, ?_⟩) (by assumption) ?_
          rotate_left
          · intro W hSW; (try dsimp only at hSW); go_simp; try with_reducible rfl
          try simp only [Act.put, List.setIfInBounds_toArray, List.set_cons_zero, List.set_cons_succ]
          refine wpAnyH_done (by kernel_rfl) ?_ _
          go_wp2_with fail
          go_meet
          case rel => exact ⟨wA.heap.size, vl', vw', rfl, rfl, Nat.le_trans hszd hge3, hlt3, Lib.hid hrD, Lib.hid ⟨hRB.last.kept hgD (.inr hap1), hRB.wait.kept hgD (.inr hap2)⟩, Lib.hid (hb0.trans (SD.mono hszd)), Lib.hid (N1'.less hszd), Lib.hid (N2'.less hszd), Lib.hid (own_one hRB.last), Lib.hid (own_one hRB.wait)⟩
      · refine ite_yes rfl ?_
        refine wp_alloc_rc rfl ?_
        intro wC hrC hbC hsC
        have SC : Below wd.heap.size wd wC := S0.trans (hbC.mono S0.size)
        refine hK.out _ _ (SC) (fun hHeld => ?_)
        clear hK K
        try simp only [Act.put, List.setIfInBounds_toArray, List.set_cons_zero, List.set_cons_succ]
        refine wpAnyH_ready (rs := [5]) (by kernel_rfl) (by simp) ?_
        refine AllReadyH.cons (o := ⟨_, _, _, _, _, _⟩) rfl (fun K hK => ?_) AllReadyH.nil
        go_simp
        refine (filled_any _ o.b).mono ?_
        rintro e wA ⟨rfl, hbA⟩
        rw [hs]
        have SA : Below wd.heap.size wd wA := SC.trans (hbA.mono SC.size)
        try simp only []
        refine hK.out _ _ (SA) (fun hHeld => ?_)
        clear hK K
        try simp only [Act.put, List.setIfInBounds_toArray, List.set_cons_zero, List.set_cons_succ]
        have hrA := hrC.below (by omega) hbA
        refine wpAnyH_ready (rs := [6]) (by kernel_rfl) (by simp) ?_
        refine AllReadyH.cons (o := ⟨_, _, _, _, _, _⟩) rfl (fun K hK => ?_) AllReadyH.nil
        go_simp
        refine (rput_any _ base vl vw d x s Hk.out hw (Nat.le_trans hbw SA.size) (hRd.below SA)).mono ?_
        rintro e wB ⟨vl', vw', rfl, hRB, hbB, hn1, hn2⟩
        have SB : Below wd.heap.size wd wB := SA.trans (hbB.mono SA.size)
        have N1' : Newer wd vl vl' := hn1.less SA.size
        have N2' : Newer wd vw vw' := hn2.less SA.size
        try simp only []
        refine hK.out _ _ (SB) (fun hHeld => ?_)
        clear hK K
        try simp only [Act.put, List.setIfInBounds_toArray, List.set_cons_zero, List.set_cons_succ]
        have hrB := hrA.below (by have := hbA.size; omega) hbB
        refine wpAnyH_take (i := 7) (oi := ⟨_, _, _, _, _, _⟩) (v := ?_) rfl (by kernel_rfl) (by kernel_rfl) (by kernel_rfl) (fun _ _ _ h => h) (Or.inl ⟨by rfl, ?_⟩) (by assumption) ?_
        rotate_left
        · intro W hSW; (try dsimp only at hSW); go_simp; try with_reducible rfl
        try simp only [Act.put, List.setIfInBounds_toArray, List.set_cons_zero, List.set_cons_succ]
        refine wpAnyH_take (i := 8) (oi := ⟨_, _, _, _, _, _⟩) (v := ?_) rfl (by kernel_rfl) (by kernel_rfl) (by kernel_rfl) (fun _ _ _ h => h) (Or.inl ⟨by rfl, ?_⟩) (by assumption) ?_
        rotate_left
        · intro W hSW; (try dsimp only at hSW); go_simp; try with_reducible rfl
        try simp only [Act.put, List.setIfInBounds_toArray, List.set_cons_zero, List.set_cons_succ]
        refine wpAnyH_take (i := 9) (oi := ⟨_, _, _, _, _, _⟩) (v := ?_) rfl (by kernel_rfl) (by kernel_rfl) (by kernel_rfl) (fun _ _ _ h => h) (Or.inl ⟨by rfl, ?_⟩) (by assumption) ?_
        rotate_left
        · intro W hSW; (try dsimp only at hSW); go_simp; try with_reducible rfl
        try simp only [Act.put, List.setIfInBounds_toArray, List.set_cons_zero, List.set_cons_succ]
        have hap1 := own_row_apart hRB.last hrB (by decide)
        have hap2 := own_row_apart hRB.wait hrB (by decide)
        refine wpAnyH_ready (rs := [11]) (by kernel_rfl) (by simp) ?_
        refine AllReadyH.cons (o := ⟨_, _, _, _, _, _⟩) rfl (fun K hK => ?_) AllReadyH.nil
        refine ite_yes rfl ?_
        refine wp_store_rc (.tmp 8) (.tmp 31) rfl wd.heap.size (rc vl' vw' (d.write x s).1) rc0 rfl rfl hrB rfl rfl (rc_all (own_one hRB.last) (own_one hRB.wait)) ?_
        intro wD hrD hgD hsD
        have hlt3 : wd.heap.size < wD.heap.size := hrD.lt
        have hge3 : wd.heap.size ≤ wd.heap.size := by
          first | exact Nat.le_refl _ | exact SA.size | exact SB.size
        have SD : Below wd.heap.size wd wD := below_grown SB hgD hge3 SB.size
        refine hK.out _ _ SD (fun hHeld => ?_)
        clear hK K
        try simp only [Act.put, List.setIfInBounds_toArray, List.set_cons_zero, List.set_cons_succ]
        refine wpAnyH_take (i := 12) (oi := ⟨_, _, _, _, _, _⟩) (v := ?_) rfl (by kernel_rfl) (by kernel_rfl) (by kernel_rfl) (fun _ _ _ h => h) (Or.inl ⟨by rfl, ?_⟩) (by assumption) ?_
        rotate_left
        · intro W hSW; (try dsimp only at hSW); go_simp; try with_reducible rfl
        try simp only [Act.put, List.setIfInBounds_toArray, List.set_cons_zero, List.set_cons_succ]
        refine wpAnyH_done (by kernel_rfl) ?_ _
        go_wp2_with fail
        go_meet
        case rel => exact ⟨wd.heap.size, vl', vw', rfl, rfl, Nat.le_trans hszd hge3, hlt3, Lib.hid hrD, Lib.hid ⟨hRB.last.kept hgD (.inr hap1), hRB.wait.kept hgD (.inr hap2)⟩, Lib.hid (hb0.trans (SD.mono hszd)), Lib.hid (N1'.less hszd), Lib.hid (N2'.less hszd), Lib.hid (own_one hRB.last), Lib.hid (own_one hRB.wait)⟩
    case rest =>
      obtain ⟨N3, vl', vw', rfl, rfl, h3a, h3b, R3, RF, B3, n1, n2, oo1, oo2⟩ := hcut
      go_wp2_with fail
      have hLw : ∀ k ∈ L, k < w.heap.size := fun k hk => (HD.out.lt hk).2
      have hNL : N2 ∉ L := fun h => by have := hLw _ h; omega
      have hN1L : N1 ∉ L := fun h => by have := hLw _ h; omega
      have hN3L : N3 ∉ L := fun h => by have := hLw _ h; omega
      have hszc : w3.heap.size ≤ wc.heap.size := B3.out.size
      have q1 : RowV wc.drew N3 32 (rc vl' vw' (d.write x s).1) := R3.out
      have q2 : RowV wc.drew N1 39 o.cs := (hr23.below (B := w3.heap.size) (by omega) B3.out : RowV wc N1 _ _)
      have q3 : RowV wc.drew N2 32 rc0 := (hr3.below (B := w3.heap.size) (by omega) B3.out : RowV wc N2 _ _)
      have qD : Disk wc.drew base L g d := (hD3.below B3.out).drew
      have qR : Ref wc.drew base vl' vw' (d.write x s).1 := ⟨RF.out.last.drew, RF.out.wait.drew⟩
      have qB : But L w.heap.size w wc.drew := ((But.of L hB3).trans ((But.of L B3.out).less hB3.size)).drew
      have hl1 : N3 < wc.drew.heap.size := h3b
      have hl2 : N1 < wc.drew.heap.size := by show _ < wc.heap.size; omega
      have hl3 : N2 < wc.drew.heap.size := by show _ < wc.heap.size; omega
      have hbw : base ≤ wc.drew.heap.size := by show _ ≤ wc.heap.size; have := hB3.size; omega
      have p1 : Newer w vl vl' := n1.out.less hB3.size
      have p2 : Newer w vw vw' := n2.out.less hB3.size
      have a1 := apart_newer Hap.out (.inl rfl) hLw p1
      have a2 := apart_newer Hap.out (.inr rfl) hLw p2
      have hwsz : w.heap.size ≤ wc.drew.heap.size := qB.size
      refine wp_region_held_drew (S := fun W => But (N2 :: L) wc.drew.heap.size wc.drew W) (by kernel_rfl) (But.refl _ _ _) (fun hHeld => ?_)
      clear k0 k1 k2 k3 hr13 hr23 hr3 hD3 hR3 R3 RF
      generalize wc.drew = wd at *
      have S0 : But (N2 :: L) wd.heap.size wd wd := But.refl _ _ _
      have hsub : ∀ k ∈ L, k ∈ N2 :: L := fun k hk => List.mem_cons_of_mem _ hk
      refine wpAnyH_take (i := 0) (oi := ⟨_, _, _, _, _, _⟩) (v := ?_) rfl (by kernel_rfl) (by kernel_rfl) (by kernel_rfl) (fun _ _ _ h => h) (Or.inl ⟨by rfl, ?_⟩) (by assumption) ?_
      rotate_left
      · intro W hSW; refine exec_rc (.tmp 8) ?_ N3 ?_ (rc vl' vw' (d.write x s).1) rfl (rowV_but q1 hSW hl1 (by simp; exact ⟨by omega, hN3L⟩)) <;> rfl
      try simp only [Act.put, List.setIfInBounds_toArray, List.set_cons_zero, List.set_cons_succ]
      refine wpAnyH_take (i := 1) (oi := ⟨_, _, _, _, _, _⟩) (v := ?_) rfl (by kernel_rfl) (by kernel_rfl) (by kernel_rfl) (fun _ _ _ h => h) (Or.inl ⟨by rfl, ?_⟩) (by assumption) ?_
      rotate_left
      · intro W hSW; go_simp; try with_reducible rfl
      try simp only [Act.put, List.setIfInBounds_toArray, List.set_cons_zero, List.set_cons_succ]
      refine wpAnyH_take (i := 2) (oi := ⟨_, _, _, _, _, _⟩) (v := ?_) rfl (by kernel_rfl) (by kernel_rfl) (by kernel_rfl) (fun _ _ _ h => h) (Or.inl ⟨by rfl, ?_⟩) (by assumption) ?_
      rotate_left
      · intro W hSW; go_simp; try with_reducible rfl
      try simp only [Act.put, List.setIfInBounds_toArray, List.set_cons_zero, List.set_cons_succ]
      refine wpAnyH_take (i := 3) (oi := ⟨_, _, _, _, _, _⟩) (v := ?_) rfl (by kernel_rfl) (by kernel_rfl) (by kernel_rfl) (fun _ _ _ h => h) (Or.inl ⟨by rfl, ?_⟩) (by assumption) ?_
      rotate_left
      · intro W hSW; have kk := (rowV_but q2 hSW hl2 (by simp; exact ⟨by omega, hN1L⟩)).cell (i := 1) rfl; rw [hx] at kk; go_simp; try with_reducible rfl
      try simp only [Act.put, List.setIfInBounds_toArray, List.set_cons_zero, List.set_cons_succ]
      refine wpAnyH_take (i := 4) (oi := ⟨_, _, _, _, _, _⟩) (v := ?_) rfl (by kernel_rfl) (by kernel_rfl) (by kernel_rfl) (fun _ _ _ h => h) (Or.inl ⟨by rfl, ?_⟩) (by assumption) ?_
      rotate_left
      · intro W hSW; go_simp; try with_reducible rfl
      try simp only [Act.put, List.setIfInBounds_toArray, List.set_cons_zero, List.set_cons_succ]
      refine wpAnyH_take (i := 5) (oi := ⟨_, _, _, _, _, _⟩) (v := ?_) rfl (by kernel_rfl) (by kernel_rfl) (by kernel_rfl) (fun _ _ _ h => h) (Or.inl ⟨by rfl, ?_⟩) (by assumption) ?_
      rotate_left
      · intro W hSW; have kk := (rowV_but q2 hSW hl2 (by simp; exact ⟨by omega, hN1L⟩)).cell (i := 2) rfl; go_simp; try with_reducible rfl
      try simp only [Act.put, List.setIfInBounds_toArray, List.set_cons_zero, List.set_cons_succ]
      refine wpAnyH_take (i := 8) (oi := ⟨_, _, _, _, _, _⟩) (v := ?_) rfl (by kernel_rfl) (by kernel_rfl) (by kernel_rfl) (fun _ _ _ h => h) (Or.inl ⟨by rfl, ?_⟩) (by assumption) ?_
      rotate_left
      · intro W hSW; go_simp; try with_reducible rfl
      try simp only [Act.put, List.setIfInBounds_toArray, List.set_cons_zero, List.set_cons_succ]
      refine wpAnyH_ready (rs := [6]) (by kernel_rfl) (by simp) ?_
      refine AllReadyH.cons (o := ⟨_, _, _, _, _, _⟩) rfl (fun K hK => ?_) AllReadyH.nil
      go_simp
      refine (filled_any _ o.b).mono ?_
      rintro e wA ⟨rfl, hbA⟩
      rw [hs]
      have SA : But (N2 :: L) wd.heap.size wd wA := But.of _ hbA
      try simp only []
      refine hK.out _ _ (SA) (fun hHeld => ?_)
      clear hK K
      try simp only [Act.put, List.setIfInBounds_toArray, List.set_cons_zero, List.set_cons_succ]
      have r3A := q3.below hl3 hbA
      have hDA := qD.below hbA
      have hRA := qR.below hbA
      refine wpAnyH_ready (rs := [7]) (by kernel_rfl) (by simp) ?_
      refine AllReadyH.cons (o := ⟨_, _, _, _, _, _⟩) rfl (fun K hK => ?_) AllReadyH.nil
      go_simp
      refine (dwrite_any wA base g L d x s Hk.out hw hDA (Nat.le_trans hbw hbA.size)).mono ?_
      rintro e wB ⟨rfl, L', hDB, hbB, hLB0⟩
      have SB : But (N2 :: L) wd.heap.size wd wB := SA.trans ((hbB.sub hsub).less SA.size)
      try simp only []
      refine hK.out _ _ (SB) (fun hHeld => ?_)
      clear hK K
      try simp only [Act.put, List.setIfInBounds_toArray, List.set_cons_zero, List.set_cons_succ]
      have r3B := rowV_but r3A hbB (by have := hbA.size; omega) hNL
      have hRB := hRA.but hbB a1 a2
      have BB : But L wd.heap.size wd wB := (But.of L hbA).trans (hbB.less hbA.size)
      have hLB : ∀ k ∈ L', k ∈ L ∨ wd.heap.size ≤ k := fun k hk => (hLB0 k hk).imp id (fun h => Nat.le_trans hbA.size h)
      refine wpAnyH_take (i := 9) (oi := ⟨_, _, _, _, _, _⟩) (v := ?_) rfl (by kernel_rfl) (by kernel_rfl) (by kernel_rfl) (fun _ _ _ h => h) (Or.inl ⟨by rfl, ?_⟩) (by assumption) ?_
      rotate_left
      · intro W hSW; (try dsimp only at hSW); go_simp; try with_reducible rfl
      try simp only [Act.put, List.setIfInBounds_toArray, List.set_cons_zero, List.set_cons_succ]
      refine wpAnyH_ready (rs := [10]) (by kernel_rfl) (by simp) ?_
      refine AllReadyH.cons (o := ⟨_, _, _, _, _, _⟩) rfl (fun K hK => ?_) AllReadyH.nil
      refine ite_yes rfl ?_
      refine wp_store_rc (.tmp 6) (.tmp 33) rfl N2 (rc vl' vw' (d.write x s).1) rc0 rfl rfl r3B rfl rfl (rc_all oo1.out oo2.out) ?_
      intro wD hrD hgD hsD
      have SD : But (N2 :: L) wd.heap.size wd wD := SB.grown hgD (by intro k e; injection e with e; left; simp [e]) SB.size
      refine hK.out _ _ SD (fun hHeld => ?_)
      clear hK K
      try simp only [Act.put, List.setIfInBounds_toArray, List.set_cons_zero, List.set_cons_succ]
      refine wpAnyH_take (i := 11) (oi := ⟨_, _, _, _, _, _⟩) (v := ?_) rfl (by kernel_rfl) (by kernel_rfl) (by kernel_rfl) (fun _ _ _ h => h) (Or.inl ⟨by rfl, ?_⟩) (by assumption) ?_
      rotate_left
      · intro W hSW; (try dsimp only at hSW); go_simp; try with_reducible rfl
      try simp only [Act.put, List.setIfInBounds_toArray, List.set_cons_zero, List.set_cons_succ]
      refine wpAnyH_done (by kernel_rfl) ?_ _
      go_wp2_with fail
      refine bodyPost_ret (results_cell_tmp (fn := Try.f10) rfl _ _ N2 32 _ (0, 0) _ rfl (.bool true) rfl hrD Try.underlying32 rfl (rc_size _ rfl)) rfl ?_
      rw [Hact.out]
      exact did_of (qB.trans (BB.less hwsz)) (by omega) r3B hgD hDB hRB (fun k hk => (hLB k hk).imp id (fun h => by omega)) (fun h => by rcases hLB _ h with h | h; exact hNL h; omega) p1 p2 (fun k hk hm => by
        rcases hLB k hm with h | h
        · exact hk.elim (fun e => a1 k e h) (fun e => a2 k e h)
        · have := hk.elim (fun e => (qR.last.lt k e).2) (fun e => (qR.wait.lt k e).2); omega)
end Go.Proofs.Ytamjkmelfpdhiaa
