/-
  Layer 12: the contract of sector.
-/
import Derived.Test.YtiglffkbaddefaaPkShlA
import Derived.Test.YtiglffkbaddefaaPkSecN
import Derived.Test.YtiglffkbaddefaaPkTabK
import Derived.Test.YtiglffkbaddefaaPkTabQ
namespace Go.Proofs.Ytiglffkbaddefaa
open Go.RowKit
set_option linter.unusedVariables false
set_option linter.unusedSimpArgs false

/-- copy of bytes into a row, as one step of a region that draws its order. -/
theorem step_copy_lies {P : Program} {ops : Array Oper} {o : Oper} {a : Act} {w : World} {K : Act → World → Prop} {Q : Exit → Act → World → Prop} {E : Prop} (hgd : o.guard = none) (d s : Operand) (dT sT : TypeId)
    (ho : o.op = .call { callee := .builtin .copy, args := #[d, s], argTypes := #[dT, sT] }) (hu : P.underlying dT = some (.slice 5)) (hsz : (P.info? 5).map (·.size) = some 1)
    (g k dLen dCap m c : Nat) (A : Option Addr) (t : TypeId) (xs ys : List UInt8) (hd : a.eval d = .slice (some ⟨g, k, none⟩) dLen dCap) (hs : a.eval s = .slice A m c) (h : Row w g t xs) (B : Nat) (hl : Lies w B A ys) (hm : m = ys.length) (hfit : k + dLen ≤ xs.length)
    (hK : ∀ w', Row w' g t (over xs k (ys.take dLen)) → w.grownBy w' (some g) → K (a.put o.dst (goInt (ys.take dLen).length)) w') : if Region.wanted o (yielded ops a.tmps) = true then Oper.wp P o a w K Q else E := by
  have hw : Region.wanted o (yielded ops a.tmps) = true := by simp [Region.wanted, hgd]
  rw [if_pos hw]
  obtain ⟨w', hrun, h1, h2⟩ := run_copy_lies (P := P) (dT := dT) (sT := sT) (ty := o.type) hu hsz (some ⟨g, k, none⟩) dLen dCap k h hl hm rfl hfit
  unfold Oper.wp
  simp [execOp, ho, resolve, invoke, builtin, hd, hs, Result.andThen]
  rw [hrun]
  exact hK w' h1 h2
theorem Row.below' {w w' : World} {g B : Nat} {t : TypeId} {xs : List UInt8} (h : Row w g t xs) (hg : g < B) (hb : Below B w w') : Row w' g t xs := (hb.block g hg).trans h

/-- Bytes laid behind the first ones, in a row that is nought from there on. -/
theorem over_fill {a y : List UInt8} {n : Nat} (h : a.length + y.length ≤ n) : over (fill a n) a.length y = fill (a ++ y) n := by
  have e1 : (fill a n).take a.length = a := by unfold fill; rw [List.take_append_of_le_length (Nat.le_refl _), List.take_length]
  have e2 : (fill a n).drop (a.length + y.length) = List.replicate (n - (a ++ y).length) 0 := by
    unfold fill
    rw [List.drop_append, List.drop_of_length_le (by omega), List.nil_append, List.drop_replicate, List.length_append]
    congr 1
    omega
  unfold over
  rw [e1, e2]
  rfl
theorem fill_zeros {a : List UInt8} {n k : Nat} (h : a.length + k ≤ n) : fill (a ++ List.replicate k 0) n = fill a n := by
  unfold fill
  rw [List.append_assoc, List.replicate_append_replicate, List.length_append, List.length_replicate]
  congr 2
  omega
theorem entB_enc (e : Ent) : entB e = encB e ++ List.replicate 2 0 := by
  unfold entB encB
  simp [List.append_assoc]
theorem placesB_snoc {l : List Ent} {k : Nat} {e : Ent} (h : l[k]? = some e) : placesB (l.take (k + 1)) = placesB (l.take k) ++ entB e := by
  rw [take_snoc h]
  simp [placesB, List.flatMap_append]
theorem over_places {l : List Ent} {k n : Nat} {e : Ent} (h : l[k]? = some e) (hn : k * 42 + 42 ≤ n) : over (fill (placesB (l.take k)) n) (k * 42) ((encB e).take 42) = fill (placesB (l.take (k + 1))) n := by
  have hk := (List.getElem?_eq_some_iff.1 h).1
  have hp : (placesB (l.take k)).length = k * 42 := by rw [placesB_length, List.length_take, Nat.min_eq_left (by omega)]
  have he := encB_length e
  rw [List.take_of_length_le (l := encB e) (by omega), placesB_snoc h, entB_enc, ← List.append_assoc, fill_zeros (by rw [List.length_append, hp, he]; omega), ← over_fill (by rw [hp, he]; omega), hp]
/-- Six places as a sector. -/
def sixS (l : List Ent) : Sec := wholeS (sealB (placesB l))
theorem sixS_one {l : List Ent} (h : l.length = 6) : (sixS l).1 = sealB (placesB l) := whole_self (by rw [sealB_length, placesB_length, h])

set_option maxRecDepth 100000 in
set_option maxHeartbeats 4000000 in
theorem ssector_any (w : World) (B c : Nat) (A : Option Addr) (l : List Ent) (h : LiesV w B A (ents l)) (h6 : l.length = 6) (hB : B ≤ w.heap.size) (hf : ∀ e ∈ l, e.fits) (hc : 6 ≤ c) :
    Calls Try.prog 31 #[.slice A 6 c] w fun r w' => r = .returned (.agg (sixS l).cs.toArray) ∧ Below w.heap.size w w' := by
  obtain ⟨i0, hi, hz0, hz1, hz2⟩ := info_parts Try.info5
  have HL := Lib.hid h
  have H6 := Lib.hid h6
  have Hf := Lib.hid hf
  clear h h6 hf
  go_enter Try.func31, Try.ntmps31
  go_wp2_with ((with_reducible refine at_alloc 43 ?_); refine alloc_sec rfl rfl ?_)
  intro w1 hr1 hb1 hs1
  obtain ⟨N, hN⟩ : ∃ N, w.heap.size = N := ⟨_, rfl⟩
  rw [hN] at hr1 hb1 hs1 hB
  go_wp2_with (at_make; refine wpList_make_full _ rfl _ _ 71 rfl w1.heap.size 5 i0 (.int .u8 0) 1 Try.underlying71 hi hz0 hz1 _ _ _ _ 252 rfl rfl rfl rfl (by rw [hz2]; omega) (by unfold maxLen; omega) (Nat.le_refl _) ?_)
  intro w2 hown hg2
  rw [fill_made] at hown
  have HR2 : Hid (Row w2 w1.heap.size 5 (fill (placesB (l.take 0)) 252)) := (by rw [hs1]; exact row_of_full hown)
  have hb2 : Below w1.heap.size w1 w2 := (Below.refl _ _).grown hg2 (Nat.le_refl _) (by simp)
  have HS2 : Hid (RowV w2 N 43 zeroSec.cs) := hr1.below (by omega) hb2
  have HB2 : Hid (Below N w w2) := hb1.trans (hb2.mono (by omega))
  obtain ⟨g, hg⟩ : ∃ g, w1.heap.size = g := ⟨_, rfl⟩
  rw [hg] at HR2
  rw [show N + 1 = g by omega]
  have hgN : N < g := by omega
  have hz2' : g < w2.heap.size := HR2.out.lt
  clear hown hg2 hb2 hr1 hb1 hg hs1
  go_wp2_with fail
  go_loopw [9] (fun v W => ∃ k : Nat, k ≤ 6 ∧ v = .int .i64 k ∧ Hid (Row W g 5 (fill (placesB (l.take k)) 252)) ∧ Hid (RowV W N 43 zeroSec.cs) ∧ Hid (Below N w W)) (fun v _ => 6 - (intOf v).toNat)
  case atStart => exact ⟨0, Nat.zero_le _, rfl, HR2, HS2, HB2⟩
  case round =>
    obtain ⟨k, hk, rfl, HR, HS, HB⟩ := hrel
    clear HR2 HS2 HB2 hz2'
    by_cases hlt : k < 6
    · have hlt' : (k : Int) < 6 := by omega
      have hk0 : (0 : Int) ≤ (k : Int) := by omega
      obtain ⟨e, he⟩ : ∃ e, l[k]? = some e := ⟨_, List.getElem?_eq_getElem (by rw [H6.out]; exact hlt)⟩
      obtain ⟨b, o, hA, hb, hra⟩ := lies_ent (HL.out.below (HB.out.mono hB)) he
      subst hA
      have Hra := Lib.hid hra
      have Hse := Lib.hid (ent_size e)
      have Hef : Hid e.fits := Hf.out e (List.mem_of_getElem? he)
      have Hov := Lib.hid (over_places he (n := 252) (by omega))
      have Hfl : Hid ((fill (placesB (l.take k)) 252).length = 252) := fill_length (by rw [placesB_length, List.length_take]; omega)
      clear hra he
      obtain ⟨NE, hNE⟩ : ∃ NE, wr.heap.size = NE := ⟨_, rfl⟩
      have hgE : g < NE := by rw [← hNE]; exact HR.out.lt
      go_wp2_with (first
        | ((with_reducible refine at_load 32 ?_); refine wpList_load_mid rfl 32 _ rfl b (o + k * 34) rfl e.cs _ Hra.out Try.underlying32 rfl Hse.out ?_)
        | ((with_reducible refine at_alloc 32 ?_); refine wpList_alloc_rowV rfl 32 rfl zeroEnt.cs Try.zeroEnt11 ?_; intro w3 hr3 hb3 hs3; rw [hNE] at hr3 hb3 ⊢)
        | ((with_reducible refine at_store 32 ?_); refine wpList_store_rowV rfl 32 _ _ rfl NE e.cs rfl rfl 32 zeroEnt.cs hr3 (by rw [List.size_toArray]; exact ent_size _) (by rw [List.size_toArray, List.size_toArray, Ent.cs_length, Ent.cs_length]) (all_oneCell_toArray (Ent.one _)) ?_; intro w4 hr4 hg4 hs4))
      have hb4 : Below NE wr w4 := below_grown hb3 hg4 (Nat.le_refl _) (by have := hb3.size; omega)
      have hRd := (HR.out.below' hgE hb4)
      have hSd := HS.out.below (by omega) hb4
      have hBd : Below N w w4 := HB.out.trans (hb4.mono (by omega))
      have hEl0 := hr4.lt
      clear hr3 hb3 hs3 hg4 hs4 hb4 HR HS HB
      go_wp2_with fail
      obtain ⟨wd, hwd⟩ : ∃ wd, w4.drew = wd := ⟨_, rfl⟩
      have hSc : But [g] wd.heap.size wd w4.drew := by rw [hwd]; exact But.refl _ _ _
      refine wp_region_held_drew (S := fun W => But [g] wd.heap.size wd W) (by kernel_rfl) hSc (fun hHeld => ?_)
      have hRd : Row w4.drew g 5 _ := hRd
      have hSd := hSd.drew
      have hBd := hBd.drew
      have hEd := hr4.drew
      have hEl : NE < w4.drew.heap.size := hEl0
      rw [hwd] at hSc hHeld hRd hSd hBd hEd hEl ⊢
      have hgl : g < wd.heap.size := by omega
      clear hwd hr4 hEl0
      refine wpAnyH_take (i := 0) (oi := ⟨_, _, _, _, _, _⟩) (v := ?_) rfl (by kernel_rfl) (by kernel_rfl) (by kernel_rfl) (fun _ _ _ h => h) (Or.inl ⟨by rfl, ?_⟩) (by assumption) ?_
      rotate_left
      · intro W hSW; go_simp; try with_reducible rfl
      try simp only [Act.put, List.setIfInBounds_toArray, List.set_cons_zero, List.set_cons_succ]
      refine wpAnyH_take (i := 1) (oi := ⟨_, _, _, _, _, _⟩) (v := ?_) rfl (by kernel_rfl) (by kernel_rfl) (by kernel_rfl) (fun _ _ _ h => h) (Or.inl ⟨by rfl, ?_⟩) (by assumption) ?_
      rotate_left
      · intro W hSW; go_simp; try with_reducible rfl
      try simp only [Act.put, List.setIfInBounds_toArray, List.set_cons_zero, List.set_cons_succ]
      refine wpAnyH_take (i := 3) (oi := ⟨_, _, _, _, _, _⟩) (v := ?_) rfl (by kernel_rfl) (by kernel_rfl) (by kernel_rfl) (fun _ _ _ h => h) (Or.inl ⟨by rfl, ?_⟩) (by assumption) ?_
      rotate_left
      · intro W hSW; refine exec_load_row 32 (.tmp 5) ?_ NE ?_ _ (rowV_but hEd hSW hEl (by simp; omega)) Try.underlying32 rfl Hse.out <;> rfl
      try simp only [Act.put, List.setIfInBounds_toArray, List.set_cons_zero, List.set_cons_succ]
      refine wpAnyH_ready (rs := [2]) (by kernel_rfl) (by simp) ?_
      refine AllReadyH.cons (o := ⟨_, _, _, _, _, _⟩) rfl (fun K hK => ?_) AllReadyH.nil
      go_simp
      refine (scut_any wd g 252 252 k (by omega) (by omega) (by omega) (by omega)).mono ?_
      rintro r ws ⟨rfl, hw⟩
      rw [hw]
      clear hw ws
      try simp only []
      refine hK.out _ _ hSc (fun hHeld => ?_)
      clear hK K
      try simp only [Act.put, List.setIfInBounds_toArray, List.set_cons_zero, List.set_cons_succ]
      refine wpAnyH_ready (rs := [4]) (by kernel_rfl) (by simp) ?_
      refine AllReadyH.cons (o := ⟨_, _, _, _, _, _⟩) rfl (fun K hK => ?_) AllReadyH.nil
      go_simp
      refine (senc_any wd e Hef.out).mono ?_
      rintro r w3 ⟨v3, rfl, ho3, hb3⟩
      obtain ⟨A3, c3, rfl, h31, h32, h33, hl3⟩ := Lies.of_own ho3
      clear ho3 h31 h32 h33
      try simp only []
      have hS3 : But [g] wd.heap.size wd w3 := But.of _ hb3
      refine hK.out _ _ hS3 (fun hHeld => ?_)
      clear hK K hSc
      try simp only [Act.put, List.setIfInBounds_toArray, List.set_cons_zero, List.set_cons_succ]
      refine wpAnyH_ready (rs := [5]) (by kernel_rfl) (by simp) ?_
      refine AllReadyH.cons (o := ⟨_, _, _, _, _, _⟩) rfl (fun K hK => ?_) AllReadyH.nil
      have hR3 : Row w3 g 5 (fill (placesB (l.take k)) 252) := hRd.below hb3
      refine step_copy_lies rfl _ _ 71 71 rfl Try.underlying71 Try.size5 g (k * 42) 42 42 _ c3 A3 5 _ (encB e) rfl rfl hR3 _ hl3 rfl (by rw [Hfl.out]; omega) ?_
      intro w4 hR4 hg4
      rw [Hov.out] at hR4
      have hS4 : But [g] wd.heap.size wd w4 := hS3.grown hg4 (fun j q => by injection q with q; exact .inl (by rw [← q]; simp)) hb3.size
      refine hK.out _ _ hS4 (fun hHeld => ?_)
      clear hK K
      try simp only [Act.put, List.setIfInBounds_toArray, List.set_cons_zero, List.set_cons_succ]
      refine wpAnyH_done (by kernel_rfl) ?_ _
      have HR4 := Lib.hid hR4
      have HS4 : Hid (RowV w4 N 43 zeroSec.cs) := rowV_but hSd hS4 (by omega) (by simp; omega)
      have HB4 : Hid (Below N w w4) := hBd.trans (hS4.mono (by omega) (fun _ _ h => h) |>.below (fun j hj => by rw [List.mem_singleton.1 hj]; omega))
      clear hR4 hS4 hS3 hR3 hb3 hl3 hg4 hRd hSd hBd hEd hEl hgl
      go_wp2_with fail
      go_roundw
      case rel => exact ⟨k + 1, by omega, by go_num, HR4, HS4, HB4⟩
      case measure => simp [intOf]; omega
    · obtain rfl : k = 6 := by omega
      have hz := HR.out.lt
      have Hfl : Hid (fill (placesB (l.take 6)) 252 = placesB l) := by
        have := fill_full (xs := placesB l)
        rw [placesB_length, H6.out] at this
        show _ = _
        rw [List.take_of_length_le (by rw [H6.out]; exact Nat.le_refl _)]
        exact this
      have hl := HR.out.lies
      rw [Hfl.out] at hl
      have Hl := Lib.hid (show (placesB l).length = 252 by rw [placesB_length, H6.out])
      go_wp2_with fail
      refine (sealed_any _ _ _ (placesB l) wr _ hl (Nat.le_refl _) Hl.out.symm (by omega)).mono ?_
      rintro r w3 ⟨A3, c3, rfl, _, _, hl3, hb3, _⟩
      have hr3 := HS.out.below (by omega) hb3
      have hB3 : Below N w w3 := HB.out.trans (hb3.mono (by omega))
      have hs3 := hb3.size
      clear hl
      go_wp2_with fail
      refine (whole_sec A3 _ c3 _ w3 _ hl3 rfl (Nat.le_refl _)).mono ?_
      rintro r w4 ⟨rfl, hb4⟩
      have hr4 := hr3.below (by omega) hb4
      have hB4 : Below N w w4 := hB3.trans (hb4.mono (by omega))
      have hs4 := hb4.size
      have Hq : Hid (wholeS (sealB (placesB l)) = sixS l) := rfl
      rw [Hq.out]
      go_wp2_with ((with_reducible refine at_store 43 ?_); refine store_sec rfl _ _ rfl N (sixS l) rfl rfl hr4 (Sec.cs_length _) ?_)
      intro w7 hr7 hg7 hs7
      go_wp2_with fail
      exact bodyPost_ret (results_cell_row (fn := Try.f31) rfl _ _ N 43 _ (0, 0) _ rfl hr7 Try.underlying43 rfl (sec_size' _)) rfl ⟨rfl, by rw [hN]; exact below_grown hB4 hg7 (Nat.le_refl _) (by omega)⟩
end Go.Proofs.Ytiglffkbaddefaa
