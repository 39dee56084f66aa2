/-
  The walk of the law DigestGrows.
-/
import Derived.Test.YthkbbghoofknpaaDoorDSum
namespace Go.Proofs.YthkbbghoofknpaaDoor
open Go.RowKit
set_option linter.unusedVariables false

/-- One operation: '!=' of an array of bytes with itself. -/
theorem exec_neq_bytes {P : Program} {W : World} {ρ : Operand → Value} {o : Oper} (t : TypeId) (x y : Operand) (u : TypeId) (ho : o.op = .binOp .neq t x y u) {n : Nat} (ht : P.underlying t = some (.array n 5)) (h5 : P.underlying 5 = some (.int .u8)) (hc : P.cellsOf 5 = 1)
    (hm : P.eqGuardType P.depth t = false) {xs : List UInt8} (hx : ρ x = .agg (cells xs).toArray) (hy : ρ y = .agg (cells xs).toArray) (h1 : xs.length = n) : (execOp ρ o).run P W = .ok (.value (.bool false)) W := by
  have e : (binOp .neq t (.agg (cells xs).toArray) (.agg (cells xs).toArray)).run P W = .ok (.bool false) W := by
    rw [run_neq_struct, run_equalIn_bytes W 9998 ht h5 hc h1 h1, beq_self_eq_true]
    rfl
  simp only [execOp, ho, hx, hy, Sem.run_bind, run_eqGuard_agg W .neq t x y _ _ hm, e, Result.andThen_ok, Sem.run_pure]
theorem PartsAt.take {w : World} {B : Nat} {L : Option Addr} {ps : List Piece} (h : PartsAt w B L ps) (k : Nat) : PartsAt w B L (ps.take k) := by
  refine ⟨fun hne => ?_, fun p hp => h.2 p (List.mem_of_mem_take hp)⟩
  obtain ⟨b, o, e, hlt, hc⟩ := h.1 (by rintro rfl; simp at hne)
  refine ⟨b, o, e, hlt, fun i p hi => hc i p ?_⟩
  rw [List.getElem?_take] at hi
  split at hi
  · exact hi
  · cases hi
theorem HashAt.grown' {w w' : World} {g : Nat} {m : List UInt8} {row : Option Nat} (h : HashAt w g m) (hb : w.grownBy w' row) (hk : row ≠ some g) : HashAt w' g m := by
  obtain ⟨blk, h1, h2, h3⟩ := h
  exact ⟨blk, h1, h2, h3.keep hb hk⟩
/-- 's[:h]' of a slice whose elements are one cell each. -/
theorem run_slice_to {P : Program} {t e : TypeId} (ht : P.underlying t = some (.slice e)) (hs : (P.info? e).map (·.size) = some 1) (A : Option Addr) (n c h : Nat) (k : IntKind) (m : Int) (hm : m = (h : Int)) (h1 : h ≤ c) (W : World) :
    (Instr.slice t (.slice A n c) none (some (.int k m)) none).run P W = .ok (.slice A h c) W ∧ (Instr.sliceAt t (.slice A n c) none (some (.int k m)) none).run P W = .ok (.slice A h c) W := by
  subst hm
  obtain ⟨inf, hinf, h4⟩ := Option.map_eq_some_iff.1 hs
  have hA : A.map (fun x : Addr => x.add 0) = A := by
    cases A with
    | none => rfl
    | some a => simp [Addr.add]
  have h2 : (Instr.slice t (.slice A n c) none (some (.int k (h : Int))) none).run P W = .ok (.slice A h c) W := by
    simp [Instr.slice, run_underlying ht, Instr.sliceBounds, run_sliceBound, sizeOf, typeInfo, hinf, h1, hA]
  refine ⟨h2, ?_⟩
  simp only [Instr.sliceAt, Sem.run_bind, run_underlying ht, Result.andThen_ok]
  exact h2
theorem Tryd.size22 : (Tryd.prog.info? 22).map (·.size) = some 1 := by kernel_rfl

theorem grows_long (L : Option Addr) (n c : Nat) (w : World) (hT : Tab w) (h : 12 < n) (hm : n ≤ 9223372036854775807) :
    Calls Tryd.prog 4 #[.slice L n c] w fun e w' => e = .returned (.bool true) ∧ Below w.heap.size w w' := by
  go_enter Tryd.func4, Tryd.ntmps4
  go_wp2_with fail
  refine (works3_any w hT).mono ?_
  rintro e w1 ⟨rfl, hb⟩
  go_wp2_with fail
  go_ret
  exact ⟨rfl, hb⟩

set_option maxRecDepth 100000 in
set_option maxHeartbeats 2000000 in
theorem grows_short (L : Option Addr) (n c : Nat) (ps : List Piece) (w : World) (hT : Tab w) (h : PartsAt w w.heap.size L ps) (h12 : n ≤ 12) (hn : n = ps.length) (hc : n ≤ c) (hm : c ≤ 9223372036854775807) :
    Calls Tryd.prog 4 #[.slice L n c] w fun e w' => e = .returned (.bool true) ∧ Below w.heap.size w w' := by
  obtain ⟨i0, hi, hz0, hz1, hz2⟩ := info_parts Tryd.info5
  have Hn := Lib.hid hn
  have HP := Lib.hid h
  obtain ⟨B, hBB⟩ : ∃ B, w.heap.size = B := ⟨_, rfl⟩
  rw [hBB] at HP
  clear hn h
  have hd12 : decide (12 < (n : Int)) = false := decide_eq_false (by omega)
  go_enter Tryd.func4, Tryd.ntmps4
  go_wp2_with fail
  refine (new_any w).mono ?_
  rintro e w2 ⟨rfl, hH2, hB2, hs2⟩
  have hT2 := hT.below hB2
  have hg0 : w.heap.size ≠ 0 := by have := hT.pos; omega
  have hsz : w.heap.size < w2.heap.size := by omega
  have HBB : Hid (B ≤ w.heap.size) := by show _ ≤ _; omega
  clear hs2 hd12 hBB
  generalize hg : w.heap.size = g at *
  have Hg := Lib.hid hg
  clear hg
  have hown2 : w2.ownsRow (g + 1) 5 1 (.slice none 0 0) 0 (cells (flat (ps.take 0))) := ⟨rfl, .inl ⟨rfl, rfl⟩⟩
  go_wp2_with fail
  go_loopw [4, 5] (fun v i W => ∃ (k m : Nat) (A : Option Addr) (c' : Nat), k ≤ n ∧ i = .int .i64 k ∧ v = .slice A m c' ∧ m ≤ 200 * k ∧ Hid (m = (flat (ps.take k)).length) ∧ W.ownsRow (g + 1) 5 1 (.slice A m c') m (cells (flat (ps.take k))) ∧ HashAt W g (flat (ps.take k)) ∧ Tab W ∧ Below g w W ∧ g < W.heap.size) (fun _ i _ => n - (intOf i).toNat)
  case atStart => exact ⟨0, 0, none, 0, Nat.zero_le _, rfl, rfl, Nat.zero_le _, rfl, hown2, hH2, hT2, hB2, hsz⟩
  case round =>
    obtain ⟨k, m, A, c', hk, hik, hv, hml, Hm, hown, hH, hT1, hB, hgW⟩ := hrel
    subst hik hv
    clear hown2 hH2 hT2 hB2 hsz
    by_cases hlt : k < n
    · obtain ⟨b, o, p, rfl, hp, hcell, hok⟩ := (HP.out.below (hB.mono HBB.out)).at_ (k := k) (by rw [← Hn.out]; exact hlt)
      have Hp := Lib.hid (flat_take_succ hp)
      have Hpk := Lib.hid hp
      obtain ⟨pA, pn, pc, xs⟩ := p
      obtain ⟨hL, h1, h2, h3⟩ := hok
      have HL := Lib.hid hL
      have H1 := Lib.hid h1
      have H3 := Lib.hid h3
      have hpc : pc ≤ 9223372036854775807 := by unfold maxLen at h3; exact h3
      clear hL h1 h3 hp
      have hdk : decide ((k : Int) < (n : Int)) = true := decide_eq_true (by omega)
      have hdk2 : decide (k < n) = true := decide_eq_true hlt
      by_cases hbig : 200 < pn
      · go_wp2_with fail
        refine (works3_any wr hT1).mono ?_
        rintro e w3 ⟨rfl, hb3⟩
        go_wp2_with fail
        go_ret
        refine ⟨rfl, ?_⟩
        rw [Hg.out]
        exact hB.trans (hb3.mono (by omega))
      · have hd200 : decide (200 < (pn : Int)) = false := decide_eq_false (by omega)
        go_wp2_with fail
        refine (add_lies g (flat (ps.take k)) xs pA pn pc wr B hg0 hT1 hH ?_ HBB.out HL.out H1.out h2 H3.out ?_).mono ?_
        · have := HBB.out; omega
        · have := Hm.out; omega
        rintro e w3 ⟨rfl, hH3, hg3⟩
        have hT3 := hT1.grown hg3 hg0
        have hB3 : Below g w w3 := hB.grown hg3 (by omega) (fun k e => by injection e with e; omega)
        have hown3 := hown.kept hg3 (.inr (fun e => by have := own_ge hown g e; omega))
        have hL3 : Lies w3 B pA xs := HL.out.grown hg3 (by have := HBB.out; omega) (fun q e => by injection e with e; have := HBB.out; omega)
        have hs3 : g < w3.heap.size := Nat.lt_of_lt_of_le hgW hg3.size
        obtain ⟨b2, o2, p2, e2, hp2, hcell2, _⟩ := (HP.out.below (hB3.mono HBB.out)).at_ (k := k) (by rw [← Hn.out]; exact hlt)
        rw [Hpk.out] at hp2
        injection hp2 with hp2
        subst hp2
        simp only [Option.some.injEq, Addr.mk.injEq, and_true] at e2
        obtain ⟨rfl, rfl⟩ := e2
        simp only at hcell2
        have hge3 := own_ge hown3
        have HB3 := Lib.hid hB3
        clear hcell hown hH hT1 hB hg3 hd200 hdk hdk2
        go_wp2_with (at_builtin; refine wpList_append_lies rfl _ _ 22 rfl (g + 1) i0 Tryd.underlying22 hi hz0 hz1 hz2 _ m (flat (ps.take k)) xs rfl hown3 B _ _ _ rfl hL3 H1.out (by omega) hs3 ?_)
        intro v4 w4 hown4 hg4
        have hH4 := hH3.grown' hg4 (fun e => by have := hge3 g e; omega)
        have hB4 : Below g w w4 := hB3.grown hg4 (by omega) (fun q e => by have := hge3 q e; omega)
        have hs4 : g < w4.heap.size := Nat.lt_of_lt_of_le hs3 hg4.size
        rw [← Hp.out] at hown4 hH4
        obtain ⟨A4, c4, rfl, hn4, _, _, hL4⟩ := Lies.of_own hown4
        rw [← hn4] at hown4 ⊢
        have H4 := Lib.hid hn4
        clear hH3 hT3 hB3 hown3 hL3 hs3 hge3 hcell2 HB3 hg4 hn4
        have hTd := (hT.below (show Below w.heap.size w w4 by rw [Hg.out]; exact hB4)).drew
        have hHd := hH4.drew
        have HLd : Hid (Lies w4.drew w4.drew.heap.size A4 (flat (ps.take (k + 1)))) := hL4
        have HPd : Hid (PartsAt w4.drew B (some ⟨b, o, none⟩) (ps.take (k + 1))) := (HP.out.below ((hB4.mono HBB.out).drew)).take (k + 1)
        have hBd : B ≤ w4.drew.heap.size := by have := HBB.out; show B ≤ w4.heap.size; omega
        have Htk : Hid (k + 1 = (ps.take (k + 1)).length) := by show _ = _; rw [List.length_take, ← Hn.out]; omega
        have hM : m + pn ≤ 2600 := by omega
        generalize hm2 : flat (ps.take (k + 1)) = m2 at *
        have Hm2 : Hid (flat (ps.take (k + 1)) = m2) := hm2
        have hml2 : m2.length ≤ 2600 := by have := H4.out; omega
        have hsl1 := fun W => (run_slice_to (P := Tryd.prog) Tryd.underlying28 Tryd.size22 (some ⟨b, o, none⟩) n c (k + 1) .i64 ((k : Int) + 1) (by omega) (by omega) W).1
        have hsl2 := fun W => (run_slice_to (P := Tryd.prog) Tryd.underlying28 Tryd.size22 (some ⟨b, o, none⟩) n c (k + 1) .i64 ((k : Int) + 1) (by omega) (by omega) W).2
        have hwk : IntKind.i64.wrap ((k : Int) + 1) = (k : Int) + 1 := IntWalk.i64_in _ (by omega)
        clear hm2 hL4
        go_wp2_with fail
        obtain ⟨wd, hwd⟩ : ∃ wd, w4.drew = wd := ⟨_, rfl⟩
        rw [hwd] at hTd hHd HLd HPd hBd
        have hSc : Below wd.heap.size wd w4.drew := by rw [hwd]; exact Below.refl _ _
        refine wp_region_held_drew (S := fun W => Below wd.heap.size wd W) (by kernel_rfl) hSc (fun hHeld => ?_)
        rw [hwd] at hSc hHeld ⊢
        have Hwd := Lib.hid hwd
        clear hwd
        refine wpAnyH_take (i := 0) (oi := ⟨_, _, _, _, _, _⟩) (v := ?_) rfl (by kernel_rfl) (by kernel_rfl) (by kernel_rfl) (fun _ _ _ h => h) (Or.inl ⟨by rfl, ?_⟩) (by assumption) ?_
        rotate_left
        · intro W hSW; (try dsimp only at hSW); go_simp; try with_reducible rfl
        try simp only [Act.put, List.setIfInBounds_toArray, List.set_cons_zero, List.set_cons_succ]
        refine wpAnyH_take (i := 2) (oi := ⟨_, _, _, _, _, _⟩) (v := ?_) rfl (by kernel_rfl) (by kernel_rfl) (by kernel_rfl) (fun _ _ _ h => h) (Or.inl ⟨by rfl, ?_⟩) (by assumption) ?_
        rotate_left
        · intro W hSW; (try dsimp only at hSW); go_simp; try with_reducible rfl
        try simp only [Act.put, List.setIfInBounds_toArray, List.set_cons_zero, List.set_cons_succ]
        refine wpAnyH_ready (rs := [1]) (by kernel_rfl) (by simp) ?_
        refine AllReadyH.cons (o := ⟨_, _, _, _, _, _⟩) rfl (fun K hK => ?_) AllReadyH.nil
        go_simp
        refine (sum_any g m2 _ (hTd.below hSc) (hHd.below hSc) (by omega)).mono ?_
        rintro e wx ⟨rfl, hb⟩
        try simp only []
        have hS1 := hSc.trans (hb.mono hSc.size)
        refine hK.out _ _ hS1 (fun hHeld => ?_)
        clear hK K hb hSc
        have hSc := hS1
        clear hS1
        try simp only [Act.put, List.setIfInBounds_toArray, List.set_cons_zero, List.set_cons_succ]
        refine wpAnyH_ready (rs := [3]) (by kernel_rfl) (by simp) ?_
        refine AllReadyH.cons (o := ⟨_, _, _, _, _, _⟩) rfl (fun K hK => ?_) AllReadyH.nil
        go_simp
        refine (rsum_any A4 _ c4 m2 _ wd.heap.size (HLd.out.below hSc) hSc.size H4.out (by omega)).mono ?_
        rintro e wx ⟨rfl, hb⟩
        try simp only []
        have hS3 := hSc.trans (hb.mono hSc.size)
        refine hK.out _ _ hS3 (fun hHeld => ?_)
        clear hK K hb hSc
        have hSc := hS3
        clear hS3
        try simp only [Act.put, List.setIfInBounds_toArray, List.set_cons_zero, List.set_cons_succ]
        refine wpAnyH_take (i := 4) (oi := ⟨_, _, _, _, _, _⟩) (v := ?_) rfl (by kernel_rfl) (by kernel_rfl) (by kernel_rfl) (fun _ _ _ h => h) (Or.inl ⟨by rfl, ?_⟩) (by assumption) ?_
        rotate_left
        · intro W hSW; refine exec_neq_bytes 24 (.tmp 39) (.tmp 41) 24 ?_ Tryd.underlying24 Tryd.underlying5 Tryd.cells5 Tryd.guardA (xs := shaB m2) ?_ ?_ (shaB_length _) <;> rfl
        try simp only [Act.put, List.setIfInBounds_toArray, List.set_cons_zero, List.set_cons_succ]
        refine wpAnyH_take (i := 5) (oi := ⟨_, _, _, _, _, _⟩) (v := ?_) rfl (by kernel_rfl) (by kernel_rfl) (by kernel_rfl) (fun _ _ _ h => h) (Or.inl ⟨by rfl, ?_⟩) (by assumption) ?_
        rotate_left
        · intro W hSW; (try dsimp only at hSW); go_simp; try with_reducible rfl
        try simp only [Act.put, List.setIfInBounds_toArray, List.set_cons_zero, List.set_cons_succ]
        refine wpAnyH_take (i := 6) (oi := ⟨_, _, _, _, _, _⟩) (v := ?_) rfl (by kernel_rfl) (by kernel_rfl) (by kernel_rfl) (fun _ _ _ h => h) (Or.inl ⟨by rfl, ?_⟩) (by assumption) ?_
        rotate_left
        · intro W hSW; (try dsimp only at hSW); go_simp; try with_reducible rfl
        try simp only [Act.put, List.setIfInBounds_toArray, List.set_cons_zero, List.set_cons_succ]
        refine wpAnyH_take (i := 8) (oi := ⟨_, _, _, _, _, _⟩) (v := ?_) rfl (by kernel_rfl) (by kernel_rfl) (by kernel_rfl) (fun _ _ _ h => h) (Or.inl ⟨by rfl, ?_⟩) (by assumption) ?_
        rotate_left
        · intro W hSW; (try dsimp only at hSW); go_simp; try with_reducible rfl
        try simp only [Act.put, List.setIfInBounds_toArray, List.set_cons_zero, List.set_cons_succ]
        refine wpAnyH_take (i := 9) (oi := ⟨_, _, _, _, _, _⟩) (v := ?_) rfl (by kernel_rfl) (by kernel_rfl) (by kernel_rfl) (fun _ _ _ h => h) (Or.inl ⟨by rfl, ?_⟩) (by assumption) ?_
        rotate_left
        · intro W hSW; (try dsimp only at hSW); go_simp; try with_reducible rfl
        try simp only [Act.put, List.setIfInBounds_toArray, List.set_cons_zero, List.set_cons_succ]
        refine wpAnyH_take (i := 10) (oi := ⟨_, _, _, _, _, _⟩) (v := ?_) rfl (by kernel_rfl) (by kernel_rfl) (by kernel_rfl) (fun _ _ _ h => h) (Or.inl ⟨by rfl, ?_⟩) (by assumption) ?_
        rotate_left
        · intro W hSW; (try dsimp only at hSW); go_simp; try with_reducible rfl
        try simp only [Act.put, List.setIfInBounds_toArray, List.set_cons_zero, List.set_cons_succ]
        refine wpAnyH_take (i := 11) (oi := ⟨_, _, _, _, _, _⟩) (v := ?_) rfl (by kernel_rfl) (by kernel_rfl) (by kernel_rfl) (fun _ _ _ h => h) (Or.inl ⟨by rfl, ?_⟩) (by assumption) ?_
        rotate_left
        · intro W hSW; (try dsimp only at hSW); go_simp; try with_reducible rfl
        try simp only [Act.put, List.setIfInBounds_toArray, List.set_cons_zero, List.set_cons_succ]
        refine wpAnyH_ready (rs := [7]) (by kernel_rfl) (by simp) ?_
        refine AllReadyH.cons (o := ⟨_, _, _, _, _, _⟩) rfl (fun K hK => ?_) AllReadyH.nil
        go_simp
        refine (sum_any g m2 _ (hTd.below hSc) (hHd.below hSc) (by omega)).mono ?_
        rintro e wx ⟨rfl, hb⟩
        try simp only []
        have hS7 := hSc.trans (hb.mono hSc.size)
        refine hK.out _ _ hS7 (fun hHeld => ?_)
        clear hK K hb hSc
        have hSc := hS7
        clear hS7
        try simp only [Act.put, List.setIfInBounds_toArray, List.set_cons_zero, List.set_cons_succ]
        refine wpAnyH_ready (rs := [12]) (by kernel_rfl) (by simp) ?_
        refine AllReadyH.cons (o := ⟨_, _, _, _, _, _⟩) rfl (fun K hK => ?_) AllReadyH.nil
        go_simp
        refine (of_any (some ⟨b, o, none⟩) (k + 1) c (ps.take (k + 1)) _ B (hTd.below hSc) (Nat.le_trans hBd hSc.size) (HPd.out.below (hSc.mono hBd)) Htk.out (by omega) (by rw [Hm2.out]; omega)).mono ?_
        rintro e wx ⟨rfl, hb⟩
        rw [Hm2.out]
        try simp only []
        have hS12 := hSc.trans (hb.mono hSc.size)
        refine hK.out _ _ hS12 (fun hHeld => ?_)
        clear hK K hb hSc
        have hSc := hS12
        clear hS12
        try simp only [Act.put, List.setIfInBounds_toArray, List.set_cons_zero, List.set_cons_succ]
        refine wpAnyH_take (i := 13) (oi := ⟨_, _, _, _, _, _⟩) (v := ?_) rfl (by kernel_rfl) (by kernel_rfl) (by kernel_rfl) (fun _ _ _ h => h) (Or.inl ⟨by rfl, ?_⟩) (by assumption) ?_
        rotate_left
        · intro W hSW; refine exec_neq_bytes 24 (.tmp 45) (.tmp 50) 24 ?_ Tryd.underlying24 Tryd.underlying5 Tryd.cells5 Tryd.guardA (xs := shaB m2) ?_ ?_ (shaB_length _) <;> rfl
        try simp only [Act.put, List.setIfInBounds_toArray, List.set_cons_zero, List.set_cons_succ]
        refine wpAnyH_take (i := 14) (oi := ⟨_, _, _, _, _, _⟩) (v := ?_) rfl (by kernel_rfl) (by kernel_rfl) (by kernel_rfl) (fun _ _ _ h => h) (Or.inl ⟨by rfl, ?_⟩) (by assumption) ?_
        rotate_left
        · intro W hSW; (try dsimp only at hSW); go_simp; try with_reducible rfl
        try simp only [Act.put, List.setIfInBounds_toArray, List.set_cons_zero, List.set_cons_succ]
        refine wpAnyH_done (by kernel_rfl) ?_ _
        have hownd : wd.ownsRow (g + 1) 5 1 (.slice A4 (m + pn) c4) (m + pn) (cells m2) := by rw [← Hwd.out]; exact hown4
        have hBd2 : Below g w wd := by rw [← Hwd.out]; exact hB4.drew
        have hsd : g < wd.heap.size := by rw [← Hwd.out]; exact hs4
        have hown5 := own_below hownd hSc
        have hH5 := hHd.below hSc
        have hT5 := hTd.below hSc
        have hB5 := hBd2.trans (hSc.mono (by omega))
        have hs5 := Nat.lt_of_lt_of_le hsd hSc.size
        have H4' : Hid (m + pn = m2.length) := H4
        have HmA : Hid (m + pn ≤ 200 * (k + 1)) := by show _ ≤ _; omega
        clear hown4 hownd hBd2 hsd hHd hTd HLd HPd hBd hSc hsl1 hsl2 hwk hH4 hB4 hs4
        go_wp2
        go_roundw
        case rel =>
          refine ⟨k + 1, m + pn, A4, c4, ?_, ?_, rfl, HmA.out, ?_, ?_, ?_, hT5, hB5, hs5⟩
          · omega
          · go_num
          · show _ = _
            rw [Hm2.out]
            exact H4'.out
          · rw [Hm2.out]
            exact hown5
          · rw [Hm2.out]
            exact hH5
        case measure => simp [intOf]; omega
    · obtain rfl : k = n := by omega
      have hd : decide ((k : Int) < (k : Int)) = false := decide_eq_false (by omega)
      go_wp2_with fail
      refine (works3_any wr hT1).mono ?_
      rintro e w3 ⟨rfl, hb3⟩
      go_wp2_with fail
      go_ret
      refine ⟨rfl, ?_⟩
      rw [Hg.out]
      exact hB.trans (hb3.mono (by omega))
theorem grows_any (L : Option Addr) (n c : Nat) (ps : List Piece) (w : World) (hT : Tab w) (h : PartsAt w w.heap.size L ps) (hn : n = ps.length) (hc : n ≤ c) (hm : c ≤ maxLen) :
    Calls Tryd.prog 4 #[.slice L n c] w fun e w' => e = .returned (.bool true) ∧ Below w.heap.size w w' := by
  have hm' : c ≤ 9223372036854775807 := by unfold maxLen at hm; exact hm
  by_cases h12 : 12 < n
  · exact grows_long L n c w hT h12 (by omega)
  · exact grows_short L n c ps w hT h (by omega) hn hc hm'
end Go.Proofs.YthkbbghoofknpaaDoor
