/-
  Layer 6: the contract of works.
-/
import Derived.Test.YtamjkmelfpdhiaaDiskAk
namespace Go.Proofs.Ytamjkmelfpdhiaa
open Go.RowKit Go.Maps
set_option linter.unusedVariables false
set_option linter.unusedSimpArgs false

def e0 : Dk := Dk.new 3
def e1 : Dk := (e0.write 1 (fillSec 5)).1
def e3 : Dk := (e1.crash [false]).1
def e4 : Dk := e3.setFuse 0
def e5 : Dk := e4.flush.1
def et : Dk := (e1.crash [true]).1
theorem e1_eq : e0.write 1 (fillSec 5) = (e1, 0) := rfl
theorem e1_read : e1.read 1 = (fillSec 5, 0) := rfl
theorem e2_eq : e1.write 3 (fillSec 1) = (e1, 2) := rfl
theorem e3_eq : e1.crash [false] = (e3, 0) := rfl
theorem e3_read : e3.read 1 = (fillSec 0, 0) := rfl
theorem e5_eq : e4.flush = (e5, 4) := rfl
theorem et_eq : e1.crash [true] = (et, 1) := rfl
theorem et_get : et.dur[1]? = some (fillSec 5) := rfl
theorem et_len : et.dur.length = 3 := rfl
theorem e0_ok : e0.Ok := new_ok (by omega) (by omega)
theorem e1_ok : e1.Ok := (write_ok e0_ok (k := 0) (Nat.le_refl _) (Nat.le_refl _) (by omega)).1
theorem e3_ok : e3.Ok := (crash_ok e1_ok).1
theorem e4_ok : e4.Ok := setFuse_ok e3_ok (by omega)
theorem e5_ok : e5.Ok := (flush_ok e4_ok (k := 1) (by decide) (by decide) (by omega)).1
theorem et_ok : et.Ok := (crash_ok e1_ok).1
theorem bools_one (w : World) (L : List Nat) (b : Bool) (hL : ∀ k ∈ L, k < w.heap.size) : Bools (w.alloc (.cells #[.bool b] 4)) L (.slice (some ⟨w.heap.size, 0, none⟩) 1 1) [b] :=
  ⟨_, 1, rfl, by simp, by simp, LiesV.lit w #[.bool b] 4 _ (by simp), fun _ a ha hm => by injection ha with ha; subst ha; have h1 : w.heap.size < w.heap.size := hL _ hm; omega⟩

set_option maxRecDepth 100000 in
set_option maxHeartbeats 8000000 in
theorem works_any (w : World) : Calls Try.prog 7 #[] w fun e w' => e = .returned (.bool true) ∧ Below w.heap.size w w' := by
  go_enter Try.func7, Try.ntmps7
  go_wp2_with fail
  refine (dnew_any w 3 (by omega) (by omega)).mono ?_
  rintro e w1 ⟨g, L, rfl, hD1, hb1⟩
  go_wp2_with fail
  refine (dnew_bad w1 0 (by omega)).mono ?_
  rintro e w1' ⟨rfl, hww⟩
  rw [hww]
  clear hww w1'
  go_wp2_with fail
  refine (filled_any w1 5).mono ?_
  rintro e w2 ⟨rfl, hb2⟩
  have hD2 := hD1.below hb2
  have hB2 : Below w.heap.size w w2 := hb1.trans (hb2.mono hb1.size)
  clear hD1 hb1 hb2
  go_wp2_with fail
  refine (dwrite_any w2 w.heap.size g L e0 1 (fillSec 5) e0_ok (by decide) hD2 hB2.size).mono ?_
  rintro e w3 ⟨rfl, L3, hD3, hbt3, hL3⟩
  rw [e1_eq]
  rw [e1_eq] at hD3
  have hB3 : Below w.heap.size w w3 := hB2.trans ((hbt3.less hB2.size).below (fun k hk => (hD2.lt hk).1))
  clear hD2 hbt3 hL3 hB2
  go_wp2_with fail
  obtain ⟨vd, vw, bm, hA3, hLf⟩ := hD3
  refine (dread_any w3 w.heap.size g bm vd vw e1 1 e1_ok hA3).mono ?_
  rintro e w4 ⟨rfl, hb4⟩
  rw [e1_read]
  have hD4 : Disk w4 w.heap.size L3 g e1 := ⟨vd, vw, bm, hA3.below hb4, hLf⟩
  have hB4 : Below w.heap.size w w4 := hB3.trans (hb4.mono hB3.size)
  clear hA3 hb4 hB3
  go_wp2_with ((with_reducible refine at_alloc 43 ?_); refine wpList_alloc_rowV rfl 43 rfl zeroSec.cs Try.zeroS ?_)
  intro w5 hr5 hb5 hs5
  have hD5 := hD4.below hb5
  have hB5 : Below w.heap.size w w5 := hB4.trans (hb5.mono hB4.size)
  have hlt4 : ∀ k ∈ L3, k < w4.heap.size := fun k hk => (hD4.lt hk).2
  have hwm1 : w.heap.size ≤ w4.heap.size := hB4.size
  generalize hM1 : w4.heap.size = M1 at *
  clear hD4 hB4 hb5
  go_wp2_with ((with_reducible refine at_store 43 ?_); refine wpList_store_rowV rfl 43 _ _ rfl (M1) ((fillSec 5).cs) rfl rfl 43 (zeroSec.cs) hr5 (sec_size' _) (sec_same _ _) (sec_all _) ?_)
  intro w6 hr6 hg6 hs6
  have hD6 : Disk w6 w.heap.size L3 g e1 := hD5.but ((But.refl [M1] _ w5).grown hg6 (by intro k e; injection e with e; simp [e]) (Nat.le_refl _)) (fun k hk => ⟨by have := hlt4 k hk; omega, by simp; have := hlt4 k hk; omega⟩)
  have hB6 : Below w.heap.size w w6 := below_grown hB5 hg6 hwm1 hB5.size
  have hsz6 : M1 < w6.heap.size := hr6.lt
  clear hD5 hB5 hg6 hr5 hs5
  go_wp2_with fail
  refine (dtwin_any w6 w.heap.size g L3 e1 e1_ok hD6).mono ?_
  rintro e w7 ⟨gt, Lt, rfl, hT7, hb7⟩
  have hD7 := hD6.below hb7
  have hr7 := hr6.below hsz6 hb7
  have hB7 : Below w.heap.size w w7 := hB6.trans (hb7.mono hB6.size)
  have hsz7 : w6.heap.size ≤ w7.heap.size := hb7.size
  have hLt0 : ∀ k ∈ Lt, w6.heap.size ≤ k := fun k hk => (hT7.lt hk).1
  have hwm6 : w.heap.size ≤ w6.heap.size := hB6.size
  clear hD6 hb7 hr6 hB6
  go_wp2_with fail
  refine (filled_any w7 1).mono ?_
  rintro e w8 ⟨rfl, hb8⟩
  have hD8 := hD7.below hb8
  have hT8 := hT7.below hb8
  have hr8 := hr7.below (B := w7.heap.size) (by omega) hb8
  have hB8 : Below w.heap.size w w8 := hB7.trans (hb8.mono hB7.size)
  have hsz8 : w6.heap.size ≤ w8.heap.size := Nat.le_trans hsz7 hb8.size
  clear hD7 hT7 hr7 hB7 hb8
  go_wp2_with fail
  refine (dwrite_any w8 w.heap.size g L3 e1 3 (fillSec 1) e1_ok (by decide) hD8 hB8.size).mono ?_
  rintro e w9 ⟨rfl, L9, hD9, hbt9, hL9⟩
  rw [e2_eq]
  rw [e2_eq] at hD9
  have hL9' : ∀ k ∈ L9, k < M1 ∨ w8.heap.size ≤ k := fun k hk => (hL9 k hk).imp (hlt4 k) id
  have hT9 := hT8.but hbt9 (fun k hk => ⟨(hT8.lt hk).2, fun h => by have := hlt4 k h; have := hLt0 k hk; omega⟩)
  have hr9 := rowV_but hr8 hbt9 (by omega) (fun h => by have := hlt4 _ h; omega)
  have hB9 : Below w.heap.size w w9 := hB8.trans ((hbt9.less hB8.size).below (fun k hk => (hD8.lt hk).1))
  have hdis9 : ∀ k ∈ Lt, k ∉ L9 := fun k hk h => by have := hL9' k h; have := (hT8.lt hk).2; have := hLt0 k hk; omega
  have hM9 : M1 ∉ L9 := fun h => by have := hL9' _ h; omega
  have hsz9 : w8.heap.size ≤ w9.heap.size := hbt9.size
  clear hD8 hT8 hr8 hB8 hbt9 hL9 hL9'
  go_wp2_with fail
  have hba : Below w9.heap.size w9 (w9.alloc (.cells #[.bool false] 4)) := (Below.refl _ _).alloc (Nat.le_refl _) _
  refine (dcrash_any _ w.heap.size g L9 e1 [false] _ e1_ok (hD9.below hba) (bools_one w9 L9 false (fun k hk => (hD9.lt hk).2))).mono ?_
  rintro e w10 ⟨rfl, L10, hD10, hbt10, hL10⟩
  rw [e3_eq]
  rw [e3_eq] at hD10
  have hTa := hT9.below hba
  have hT10 := hTa.but hbt10 (fun k hk => ⟨(hTa.lt hk).2, hdis9 k hk⟩)
  have hr10 := rowV_but (hr9.below (B := w9.heap.size) (by omega) hba) hbt10 (by rw [World.size_alloc]; omega) hM9
  have hB9a : Below w.heap.size w (w9.alloc (.cells #[.bool false] 4)) := hB9.trans (hba.mono hB9.size)
  have hB10 : Below w.heap.size w w10 := hB9a.trans ((hbt10.less hB9a.size).below (fun k hk => (hD9.lt hk).1))
  have hsz10 : w9.heap.size < w10.heap.size := by have := hbt10.size; rw [World.size_alloc] at this; omega
  have hdis10 : ∀ k ∈ Lt, k ∉ L10 := fun k hk h => by
    rcases hL10 k h with h | h
    · exact hdis9 k hk h
    · have := (hT9.lt hk).2; rw [World.size_alloc] at h; omega
  have hM10 : M1 ∉ L10 := fun h => by
    rcases hL10 _ h with h | h
    · exact hM9 h
    · rw [World.size_alloc] at h; omega
  clear hD9 hTa hT9 hr9 hB9 hB9a hba hbt10 hL10 hdis9 hM9
  go_wp2_with fail
  obtain ⟨vd, vw, bm, hA10, hLf10⟩ := hD10
  refine (dread_any w10 w.heap.size g bm vd vw e3 1 e3_ok hA10).mono ?_
  rintro e w11 ⟨rfl, hb11⟩
  rw [e3_read]
  have hD11 : Disk w11 w.heap.size L10 g e3 := ⟨vd, vw, bm, hA10.below hb11, hLf10⟩
  have hT11 := hT10.below hb11
  have hr11 := hr10.below (B := w10.heap.size) (by omega) hb11
  have hB11 : Below w.heap.size w w11 := hB10.trans (hb11.mono hB10.size)
  have hsz11 : w10.heap.size ≤ w11.heap.size := hb11.size
  clear hA10 hLf10 hT10 hr10 hB10 hb11
  go_wp2_with ((with_reducible refine at_alloc 43 ?_); refine wpList_alloc_rowV rfl 43 rfl zeroSec.cs Try.zeroS ?_)
  intro w12 hr12 hb12 hs12
  have hD12 := hD11.below hb12
  have hT12 := hT11.below hb12
  have hrm12 := hr11.below (B := w11.heap.size) (by omega) hb12
  have hB12 : Below w.heap.size w w12 := hB11.trans (hb12.mono hB11.size)
  have hltd : ∀ k ∈ L10, k < w11.heap.size := fun k hk => (hD11.lt hk).2
  have hltt : ∀ k ∈ Lt, k < w11.heap.size := fun k hk => (hT11.lt hk).2
  have hwm2 : w.heap.size ≤ w11.heap.size := hB11.size
  generalize hM2 : w11.heap.size = M2 at *
  clear hD11 hT11 hr11 hB11 hb12
  go_wp2_with ((with_reducible refine at_store 43 ?_); refine wpList_store_rowV rfl 43 _ _ rfl (M2) ((fillSec 0).cs) rfl rfl 43 (zeroSec.cs) hr12 (sec_size' _) (sec_same _ _) (sec_all _) ?_)
  intro w13 hr13 hg13 hs13
  have hgb := (But.refl [M2] _ w12).grown hg13 (by intro k e; injection e with e; simp [e]) (Nat.le_refl _)
  have hD13 : Disk w13 w.heap.size L10 g e3 := hD12.but hgb (fun k hk => ⟨by have := hltd k hk; omega, by simp; have := hltd k hk; omega⟩)
  have hT13 : Disk w13 w6.heap.size Lt gt e1 := hT12.but hgb (fun k hk => ⟨by have := hltt k hk; omega, by simp; have := hltt k hk; omega⟩)
  have hrm13 := hrm12.keep hg13 (by intro e; injection e with e; omega)
  have hB13 : Below w.heap.size w w13 := below_grown hB12 hg13 hwm2 hB12.size
  have hMM : M1 < M2 := by omega
  have hM2a : M2 ∉ L10 := fun h => by have := hltd _ h; omega
  have hsz13 : M2 < w13.heap.size := hr13.lt
  clear hD12 hT12 hrm12 hB12 hgb hg13 hr12 hs12
  go_wp2_with fail
  obtain ⟨vd, vw, bm, hA13, hLf13⟩ := hD13
  refine (dfuse_any w13 w.heap.size g bm vd vw e3 0 hA13).mono ?_
  rintro e w14 ⟨rfl, hA14, hg14⟩
  have hgL : g ∈ L10 := by rw [hLf13]; simp [mem_foot]
  have hD14 : Disk w14 w.heap.size L10 g e4 := ⟨vd, vw, bm, hA14, hLf13⟩
  have hgb := (But.refl L10 _ w13).grown hg14 (by intro k e; injection e with e; left; rw [← e]; exact hgL) (Nat.le_refl _)
  have hT14 := hT13.but hgb (fun k hk => ⟨(hT13.lt hk).2, hdis10 k hk⟩)
  have hrm14 := rowV_but hrm13 hgb (by omega) hM10
  have hr14 := rowV_but hr13 hgb hsz13 hM2a
  have hB14 : Below w.heap.size w w14 := hB13.trans ((hgb.less hB13.size).below (fun k hk => (hD14.lt hk).1))
  have hsz14 : M2 < w14.heap.size := Nat.lt_of_lt_of_le hsz13 hg14.size
  clear hA13 hA14 hLf13 hT13 hrm13 hr13 hB13 hgb hg14
  go_wp2_with fail
  refine (dflush_any w14 w.heap.size g L10 e4 e4_ok hD14).mono ?_
  rintro e w15 ⟨rfl, L15, hD15, hbt15, hL15⟩
  rw [e5_eq]
  rw [e5_eq] at hD15
  have hT15 := hT14.but hbt15 (fun k hk => ⟨(hT14.lt hk).2, hdis10 k hk⟩)
  have hrm15 := rowV_but hrm14 hbt15 (by omega) hM10
  have hr15 := rowV_but hr14 hbt15 hsz14 hM2a
  have hB15 : Below w.heap.size w w15 := hB14.trans ((hbt15.less hB14.size).below (fun k hk => (hD14.lt hk).1))
  have hdis15 : ∀ k ∈ L15, k ∉ Lt := fun k hk h => by
    rcases hL15 k hk with h' | h'
    · exact hdis10 k h h'
    · have := (hT14.lt h).2; omega
  have hsz15 : M2 < w15.heap.size := Nat.lt_of_lt_of_le hsz14 hbt15.size
  clear hD14 hT14 hrm14 hr14 hB14 hbt15 hL15
  go_wp2_with fail
  have hba : Below w15.heap.size w15 (w15.alloc (.cells #[.bool true] 4)) := (Below.refl _ _).alloc (Nat.le_refl _) _
  refine (dcrash_any _ w6.heap.size gt Lt e1 [true] _ e1_ok (hT15.below hba) (bools_one w15 Lt true (fun k hk => (hT15.lt hk).2))).mono ?_
  rintro e w16 ⟨rfl, Lt16, hT16, hbt16, hLt16⟩
  rw [et_eq]
  rw [et_eq] at hT16
  have hDa := hD15.below hba
  have hD16 := hDa.but hbt16 (fun k hk => ⟨(hDa.lt hk).2, hdis15 k hk⟩)
  have hrm16 := rowV_but (hrm15.below (B := w15.heap.size) (by omega) hba) hbt16 (by rw [World.size_alloc]; omega) (fun h => by have := hLt0 _ h; omega)
  have hr16 := rowV_but (hr15.below (B := w15.heap.size) (by omega) hba) hbt16 (by rw [World.size_alloc]; omega) (fun h => by have := hltt _ h; omega)
  have hBa : Below w.heap.size w (w15.alloc (.cells #[.bool true] 4)) := hB15.trans (hba.mono hB15.size)
  have hB16 : Below w.heap.size w w16 := hBa.trans ((hbt16.less hBa.size).below (fun k hk => by have := hLt0 k hk; omega))
  have hsz16 : M2 < w16.heap.size := by have := hbt16.size; rw [World.size_alloc] at this; omega
  clear hDa hD15 hT15 hrm15 hr15 hBa hB15 hba hbt16
  go_wp2_with fail
  obtain ⟨vdt, vwt, bmt, hAt, hLft⟩ := hT16
  refine (dimage_any w16 w6.heap.size gt bmt vdt vwt et et_ok hAt).mono ?_
  rintro e w17 ⟨vI, rfl, hoI, hbI⟩
  rw [et_len] at hoI
  obtain ⟨gi, ci, rfl, hci, _, hgi0, hgi1⟩ := own_form hoI (by omega)
  have hci' : (3 : Int) ≤ (ci : Int) := by omega
  go_wp2_with fail
  obtain ⟨vdd, vwd, bmd, hAd, hLfd⟩ := hD16
  have qD : DiskAt w17.drew w.heap.size g vdd vwd bmd e5 := (hAd.below hbI).drew
  have q1 : RowV w17.drew M1 43 (fillSec 5).cs := (hrm16.below (B := w16.heap.size) (by omega) hbI : RowV w17 M1 _ _)
  have q2 : RowV w17.drew M2 43 (fillSec 0).cs := (hr16.below (B := w16.heap.size) (by omega) hbI : RowV w17 M2 _ _)
  have qi := hoI.drew
  have qB : Below w.heap.size w w17.drew := (hB16.trans (hbI.mono hB16.size)).drew
  have hl1 : M1 < w17.drew.heap.size := by show M1 < w17.heap.size; have := hbI.size; omega
  have hl2 : M2 < w17.drew.heap.size := by show M2 < w17.heap.size; have := hbI.size; omega
  have hgi : gi < w17.drew.heap.size := hgi1
  refine wp_region_held_drew (S := fun W => Below w17.drew.heap.size w17.drew W) (by kernel_rfl) (Below.refl _ _) (fun hHeld => ?_)
  clear hAd hrm16 hr16 hoI hB16 hbI hgi1
  generalize w17.drew = wd at *
  have S0 : Below wd.heap.size wd wd := Below.refl _ _
  refine wpAnyH_take (i := 0) (oi := ⟨_, _, _, _, _, _⟩) (v := ?_) rfl (by kernel_rfl) (by kernel_rfl) (by kernel_rfl) (fun _ _ _ h => h) (Or.inl ⟨by rfl, ?_⟩) (by assumption) ?_
  rotate_left
  · intro W hSW; (try dsimp only at hSW); go_simp; try with_reducible rfl
  try simp only [Act.put, List.setIfInBounds_toArray, List.set_cons_zero, List.set_cons_succ]
  refine wpAnyH_take (i := 1) (oi := ⟨_, _, _, _, _, _⟩) (v := ?_) rfl (by kernel_rfl) (by kernel_rfl) (by kernel_rfl) (fun _ _ _ h => h) (Or.inl ⟨by rfl, ?_⟩) (by assumption) ?_
  rotate_left
  · intro W hSW; (try dsimp only at hSW); go_simp; try with_reducible rfl
  try simp only [Act.put, List.setIfInBounds_toArray, List.set_cons_zero, List.set_cons_succ]
  refine wpAnyH_take (i := 2) (oi := ⟨_, _, _, _, _, _⟩) (v := ?_) rfl (by kernel_rfl) (by kernel_rfl) (by kernel_rfl) (fun _ _ _ h => h) (Or.inl ⟨by rfl, ?_⟩) (by assumption) ?_
  rotate_left
  · intro W hSW; (try dsimp only at hSW); go_simp; try with_reducible rfl
  try simp only [Act.put, List.setIfInBounds_toArray, List.set_cons_zero, List.set_cons_succ]
  refine wpAnyH_take (i := 3) (oi := ⟨_, _, _, _, _, _⟩) (v := ?_) rfl (by kernel_rfl) (by kernel_rfl) (by kernel_rfl) (fun _ _ _ h => h) (Or.inl ⟨by rfl, ?_⟩) (by assumption) ?_
  rotate_left
  · intro W hSW; (try dsimp only at hSW); go_simp; try with_reducible rfl
  try simp only [Act.put, List.setIfInBounds_toArray, List.set_cons_zero, List.set_cons_succ]
  refine wpAnyH_take (i := 4) (oi := ⟨_, _, _, _, _, _⟩) (v := ?_) rfl (by kernel_rfl) (by kernel_rfl) (by kernel_rfl) (fun _ _ _ h => h) (Or.inl ⟨by rfl, ?_⟩) (by assumption) ?_
  rotate_left
  · intro W hSW; (try dsimp only at hSW); go_simp; try with_reducible rfl
  try simp only [Act.put, List.setIfInBounds_toArray, List.set_cons_zero, List.set_cons_succ]
  refine wpAnyH_take (i := 5) (oi := ⟨_, _, _, _, _, _⟩) (v := ?_) rfl (by kernel_rfl) (by kernel_rfl) (by kernel_rfl) (fun _ _ _ h => h) (Or.inl ⟨by rfl, ?_⟩) (by assumption) ?_
  rotate_left
  · intro W hSW; (try dsimp only at hSW); go_simp; try with_reducible rfl
  try simp only [Act.put, List.setIfInBounds_toArray, List.set_cons_zero, List.set_cons_succ]
  refine wpAnyH_take (i := 6) (oi := ⟨_, _, _, _, _, _⟩) (v := ?_) rfl (by kernel_rfl) (by kernel_rfl) (by kernel_rfl) (fun _ _ _ h => h) (Or.inl ⟨by rfl, ?_⟩) (by assumption) ?_
  rotate_left
  · intro W hSW; (try dsimp only at hSW); go_simp; try with_reducible rfl
  try simp only [Act.put, List.setIfInBounds_toArray, List.set_cons_zero, List.set_cons_succ]
  refine wpAnyH_take (i := 7) (oi := ⟨_, _, _, _, _, _⟩) (v := ?_) rfl (by kernel_rfl) (by kernel_rfl) (by kernel_rfl) (fun _ _ _ h => h) (Or.inl ⟨by rfl, ?_⟩) (by assumption) ?_
  rotate_left
  · intro W hSW; (try dsimp only at hSW); go_simp; try with_reducible rfl
  try simp only [Act.put, List.setIfInBounds_toArray, List.set_cons_zero, List.set_cons_succ]
  refine wpAnyH_take (i := 8) (oi := ⟨_, _, _, _, _, _⟩) (v := ?_) rfl (by kernel_rfl) (by kernel_rfl) (by kernel_rfl) (fun _ _ _ h => h) (Or.inl ⟨by rfl, ?_⟩) (by assumption) ?_
  rotate_left
  · intro W hSW; (try dsimp only at hSW); go_simp; try with_reducible rfl
  try simp only [Act.put, List.setIfInBounds_toArray, List.set_cons_zero, List.set_cons_succ]
  refine wpAnyH_take (i := 9) (oi := ⟨_, _, _, _, _, _⟩) (v := ?_) rfl (by kernel_rfl) (by kernel_rfl) (by kernel_rfl) (fun _ _ _ h => h) (Or.inl ⟨by rfl, ?_⟩) (by assumption) ?_
  rotate_left
  · intro W hSW; (try dsimp only at hSW); go_simp; try with_reducible rfl
  try simp only [Act.put, List.setIfInBounds_toArray, List.set_cons_zero, List.set_cons_succ]
  refine wpAnyH_take (i := 10) (oi := ⟨_, _, _, _, _, _⟩) (v := ?_) rfl (by kernel_rfl) (by kernel_rfl) (by kernel_rfl) (fun _ _ _ h => h) (Or.inl ⟨by rfl, ?_⟩) (by assumption) ?_
  rotate_left
  · intro W hSW; (try dsimp only at hSW); go_simp; try with_reducible rfl
  try simp only [Act.put, List.setIfInBounds_toArray, List.set_cons_zero, List.set_cons_succ]
  refine wpAnyH_take (i := 11) (oi := ⟨_, _, _, _, _, _⟩) (v := ?_) rfl (by kernel_rfl) (by kernel_rfl) (by kernel_rfl) (fun _ _ _ h => h) (Or.inl ⟨by rfl, ?_⟩) (by assumption) ?_
  rotate_left
  · intro W hSW; (try dsimp only at hSW); go_simp; try with_reducible rfl
  try simp only [Act.put, List.setIfInBounds_toArray, List.set_cons_zero, List.set_cons_succ]
  refine wpAnyH_take (i := 12) (oi := ⟨_, _, _, _, _, _⟩) (v := ?_) rfl (by kernel_rfl) (by kernel_rfl) (by kernel_rfl) (fun _ _ _ h => h) (Or.inl ⟨by rfl, ?_⟩) (by assumption) ?_
  rotate_left
  · intro W hSW; (try dsimp only at hSW); go_simp; try with_reducible rfl
  try simp only [Act.put, List.setIfInBounds_toArray, List.set_cons_zero, List.set_cons_succ]
  refine wpAnyH_take (i := 13) (oi := ⟨_, _, _, _, _, _⟩) (v := ?_) rfl (by kernel_rfl) (by kernel_rfl) (by kernel_rfl) (fun _ _ _ h => h) (Or.inl ⟨by rfl, ?_⟩) (by assumption) ?_
  rotate_left
  · intro W hSW; (try dsimp only at hSW); go_simp; try with_reducible rfl
  try simp only [Act.put, List.setIfInBounds_toArray, List.set_cons_zero, List.set_cons_succ]
  refine wpAnyH_take (i := 14) (oi := ⟨_, _, _, _, _, _⟩) (v := ?_) rfl (by kernel_rfl) (by kernel_rfl) (by kernel_rfl) (fun _ _ _ h => h) (Or.inl ⟨by rfl, ?_⟩) (by assumption) ?_
  rotate_left
  · intro W hSW; (try dsimp only at hSW); go_simp; try with_reducible rfl
  try simp only [Act.put, List.setIfInBounds_toArray, List.set_cons_zero, List.set_cons_succ]
  refine wpAnyH_take (i := 15) (oi := ⟨_, _, _, _, _, _⟩) (v := ?_) rfl (by kernel_rfl) (by kernel_rfl) (by kernel_rfl) (fun _ _ _ h => h) (Or.inl ⟨by rfl, ?_⟩) (by assumption) ?_
  rotate_left
  · intro W hSW; refine exec_load_mid 43 (.tmp 6) ?_ M1 0 ?_ (fillSec 5).cs _ (row_range (q1.below hl1 hSW)) Try.underlying43 rfl (sec_size _) <;> rfl
  try simp only [Act.put, List.setIfInBounds_toArray, List.set_cons_zero, List.set_cons_succ]
  refine wpAnyH_ready (rs := [16]) (by kernel_rfl) (by simp) ?_
  refine AllReadyH.cons (o := ⟨_, _, _, _, _, _⟩) rfl (fun K hK => ?_) AllReadyH.nil
  go_simp
  refine (filled_any _ 5).mono ?_
  rintro e wa ⟨rfl, hba⟩
  have Sa : Below wd.heap.size wd wa := S0.trans (hba.mono S0.size)
  try simp only []
  refine hK.out _ _ (Sa) (fun hHeld => ?_)
  clear hK K
  try simp only [Act.put, List.setIfInBounds_toArray, List.set_cons_zero, List.set_cons_succ]
  refine wpAnyH_take (i := 17) (oi := ⟨_, _, _, _, _, _⟩) (v := .bool true) rfl (by kernel_rfl) (by kernel_rfl) (by kernel_rfl) (fun _ _ _ h => h) (Or.inl ⟨by rfl, ?_⟩) (by assumption) ?_
  · intro W hSW; refine (exec_eql_bytes 43 (.tmp 73) (.tmp 74) 43 ?_ Try.underlying43 Try.underlying5 Try.cells5' Try.guardS (xs := (fillSec 5).1) (ys := (fillSec 5).1) ?_ ?_ (fillSec 5).2 (fillSec 5).2).trans (by rw [beq_self_eq_true]) <;> rfl
  try simp only [Act.put, List.setIfInBounds_toArray, List.set_cons_zero, List.set_cons_succ]
  refine wpAnyH_take (i := 18) (oi := ⟨_, _, _, _, _, _⟩) (v := ?_) rfl (by kernel_rfl) (by kernel_rfl) (by kernel_rfl) (fun _ _ _ h => h) (Or.inl ⟨by rfl, ?_⟩) (by assumption) ?_
  rotate_left
  · intro W hSW; (try dsimp only at hSW); go_simp; try with_reducible rfl
  try simp only [Act.put, List.setIfInBounds_toArray, List.set_cons_zero, List.set_cons_succ]
  refine wpAnyH_take (i := 19) (oi := ⟨_, _, _, _, _, _⟩) (v := ?_) rfl (by kernel_rfl) (by kernel_rfl) (by kernel_rfl) (fun _ _ _ h => h) (Or.inl ⟨by rfl, ?_⟩) (by assumption) ?_
  rotate_left
  · intro W hSW; (try dsimp only at hSW); go_simp; try with_reducible rfl
  try simp only [Act.put, List.setIfInBounds_toArray, List.set_cons_zero, List.set_cons_succ]
  refine wpAnyH_take (i := 20) (oi := ⟨_, _, _, _, _, _⟩) (v := ?_) rfl (by kernel_rfl) (by kernel_rfl) (by kernel_rfl) (fun _ _ _ h => h) (Or.inl ⟨by rfl, ?_⟩) (by assumption) ?_
  rotate_left
  · intro W hSW; (try dsimp only at hSW); go_simp; try with_reducible rfl
  try simp only [Act.put, List.setIfInBounds_toArray, List.set_cons_zero, List.set_cons_succ]
  refine wpAnyH_take (i := 21) (oi := ⟨_, _, _, _, _, _⟩) (v := ?_) rfl (by kernel_rfl) (by kernel_rfl) (by kernel_rfl) (fun _ _ _ h => h) (Or.inl ⟨by rfl, ?_⟩) (by assumption) ?_
  rotate_left
  · intro W hSW; (try dsimp only at hSW); go_simp; try with_reducible rfl
  try simp only [Act.put, List.setIfInBounds_toArray, List.set_cons_zero, List.set_cons_succ]
  refine wpAnyH_take (i := 22) (oi := ⟨_, _, _, _, _, _⟩) (v := ?_) rfl (by kernel_rfl) (by kernel_rfl) (by kernel_rfl) (fun _ _ _ h => h) (Or.inl ⟨by rfl, ?_⟩) (by assumption) ?_
  rotate_left
  · intro W hSW; (try dsimp only at hSW); go_simp; try with_reducible rfl
  try simp only [Act.put, List.setIfInBounds_toArray, List.set_cons_zero, List.set_cons_succ]
  refine wpAnyH_take (i := 23) (oi := ⟨_, _, _, _, _, _⟩) (v := ?_) rfl (by kernel_rfl) (by kernel_rfl) (by kernel_rfl) (fun _ _ _ h => h) (Or.inl ⟨by rfl, ?_⟩) (by assumption) ?_
  rotate_left
  · intro W hSW; (try dsimp only at hSW); go_simp; try with_reducible rfl
  try simp only [Act.put, List.setIfInBounds_toArray, List.set_cons_zero, List.set_cons_succ]
  refine wpAnyH_take (i := 24) (oi := ⟨_, _, _, _, _, _⟩) (v := ?_) rfl (by kernel_rfl) (by kernel_rfl) (by kernel_rfl) (fun _ _ _ h => h) (Or.inl ⟨by rfl, ?_⟩) (by assumption) ?_
  rotate_left
  · intro W hSW; (try dsimp only at hSW); go_simp; try with_reducible rfl
  try simp only [Act.put, List.setIfInBounds_toArray, List.set_cons_zero, List.set_cons_succ]
  refine wpAnyH_take (i := 25) (oi := ⟨_, _, _, _, _, _⟩) (v := ?_) rfl (by kernel_rfl) (by kernel_rfl) (by kernel_rfl) (fun _ _ _ h => h) (Or.inl ⟨by rfl, ?_⟩) (by assumption) ?_
  rotate_left
  · intro W hSW; (try dsimp only at hSW); go_simp; try with_reducible rfl
  try simp only [Act.put, List.setIfInBounds_toArray, List.set_cons_zero, List.set_cons_succ]
  refine wpAnyH_take (i := 26) (oi := ⟨_, _, _, _, _, _⟩) (v := ?_) rfl (by kernel_rfl) (by kernel_rfl) (by kernel_rfl) (fun _ _ _ h => h) (Or.inl ⟨by rfl, ?_⟩) (by assumption) ?_
  rotate_left
  · intro W hSW; (try dsimp only at hSW); go_simp; try with_reducible rfl
  try simp only [Act.put, List.setIfInBounds_toArray, List.set_cons_zero, List.set_cons_succ]
  refine wpAnyH_take (i := 27) (oi := ⟨_, _, _, _, _, _⟩) (v := ?_) rfl (by kernel_rfl) (by kernel_rfl) (by kernel_rfl) (fun _ _ _ h => h) (Or.inl ⟨by rfl, ?_⟩) (by assumption) ?_
  rotate_left
  · intro W hSW; (try dsimp only at hSW); go_simp; try with_reducible rfl
  try simp only [Act.put, List.setIfInBounds_toArray, List.set_cons_zero, List.set_cons_succ]
  refine wpAnyH_take (i := 28) (oi := ⟨_, _, _, _, _, _⟩) (v := ?_) rfl (by kernel_rfl) (by kernel_rfl) (by kernel_rfl) (fun _ _ _ h => h) (Or.inl ⟨by rfl, ?_⟩) (by assumption) ?_
  rotate_left
  · intro W hSW; refine exec_load_mid 43 (.tmp 11) ?_ M2 0 ?_ (fillSec 0).cs _ (row_range (q2.below hl2 hSW)) Try.underlying43 rfl (sec_size _) <;> rfl
  try simp only [Act.put, List.setIfInBounds_toArray, List.set_cons_zero, List.set_cons_succ]
  refine wpAnyH_ready (rs := [29]) (by kernel_rfl) (by simp) ?_
  refine AllReadyH.cons (o := ⟨_, _, _, _, _, _⟩) rfl (fun K hK => ?_) AllReadyH.nil
  go_simp
  refine (filled_any _ 0).mono ?_
  rintro e wb ⟨rfl, hbb⟩
  have Sb : Below wd.heap.size wd wb := Sa.trans (hbb.mono Sa.size)
  try simp only []
  refine hK.out _ _ (Sb) (fun hHeld => ?_)
  clear hK K
  try simp only [Act.put, List.setIfInBounds_toArray, List.set_cons_zero, List.set_cons_succ]
  refine wpAnyH_take (i := 30) (oi := ⟨_, _, _, _, _, _⟩) (v := .bool true) rfl (by kernel_rfl) (by kernel_rfl) (by kernel_rfl) (fun _ _ _ h => h) (Or.inl ⟨by rfl, ?_⟩) (by assumption) ?_
  · intro W hSW; refine (exec_eql_bytes 43 (.tmp 86) (.tmp 87) 43 ?_ Try.underlying43 Try.underlying5 Try.cells5' Try.guardS (xs := (fillSec 0).1) (ys := (fillSec 0).1) ?_ ?_ (fillSec 0).2 (fillSec 0).2).trans (by rw [beq_self_eq_true]) <;> rfl
  try simp only [Act.put, List.setIfInBounds_toArray, List.set_cons_zero, List.set_cons_succ]
  refine wpAnyH_take (i := 31) (oi := ⟨_, _, _, _, _, _⟩) (v := ?_) rfl (by kernel_rfl) (by kernel_rfl) (by kernel_rfl) (fun _ _ _ h => h) (Or.inl ⟨by rfl, ?_⟩) (by assumption) ?_
  rotate_left
  · intro W hSW; (try dsimp only at hSW); go_simp; try with_reducible rfl
  try simp only [Act.put, List.setIfInBounds_toArray, List.set_cons_zero, List.set_cons_succ]
  refine wpAnyH_take (i := 32) (oi := ⟨_, _, _, _, _, _⟩) (v := ?_) rfl (by kernel_rfl) (by kernel_rfl) (by kernel_rfl) (fun _ _ _ h => h) (Or.inl ⟨by rfl, ?_⟩) (by assumption) ?_
  rotate_left
  · intro W hSW; (try dsimp only at hSW); go_simp; try with_reducible rfl
  try simp only [Act.put, List.setIfInBounds_toArray, List.set_cons_zero, List.set_cons_succ]
  refine wpAnyH_take (i := 33) (oi := ⟨_, _, _, _, _, _⟩) (v := ?_) rfl (by kernel_rfl) (by kernel_rfl) (by kernel_rfl) (fun _ _ _ h => h) (Or.inl ⟨by rfl, ?_⟩) (by assumption) ?_
  rotate_left
  · intro W hSW; (try dsimp only at hSW); go_simp; try with_reducible rfl
  try simp only [Act.put, List.setIfInBounds_toArray, List.set_cons_zero, List.set_cons_succ]
  refine wpAnyH_take (i := 34) (oi := ⟨_, _, _, _, _, _⟩) (v := ?_) rfl (by kernel_rfl) (by kernel_rfl) (by kernel_rfl) (fun _ _ _ h => h) (Or.inl ⟨by rfl, ?_⟩) (by assumption) ?_
  rotate_left
  · intro W hSW; (try dsimp only at hSW); go_simp; try with_reducible rfl
  try simp only [Act.put, List.setIfInBounds_toArray, List.set_cons_zero, List.set_cons_succ]
  refine wpAnyH_take (i := 35) (oi := ⟨_, _, _, _, _, _⟩) (v := ?_) rfl (by kernel_rfl) (by kernel_rfl) (by kernel_rfl) (fun _ _ _ h => h) (Or.inl ⟨by rfl, ?_⟩) (by assumption) ?_
  rotate_left
  · intro W hSW; (try dsimp only at hSW); go_simp; try with_reducible rfl
  try simp only [Act.put, List.setIfInBounds_toArray, List.set_cons_zero, List.set_cons_succ]
  refine wpAnyH_take (i := 36) (oi := ⟨_, _, _, _, _, _⟩) (v := ?_) rfl (by kernel_rfl) (by kernel_rfl) (by kernel_rfl) (fun _ _ _ h => h) (Or.inl ⟨by rfl, ?_⟩) (by assumption) ?_
  rotate_left
  · intro W hSW; (try dsimp only at hSW); go_simp; try with_reducible rfl
  try simp only [Act.put, List.setIfInBounds_toArray, List.set_cons_zero, List.set_cons_succ]
  refine wpAnyH_take (i := 37) (oi := ⟨_, _, _, _, _, _⟩) (v := ?_) rfl (by kernel_rfl) (by kernel_rfl) (by kernel_rfl) (fun _ _ _ h => h) (Or.inl ⟨by rfl, ?_⟩) (by assumption) ?_
  rotate_left
  · intro W hSW; (try dsimp only at hSW); go_simp; try with_reducible rfl
  try simp only [Act.put, List.setIfInBounds_toArray, List.set_cons_zero, List.set_cons_succ]
  refine wpAnyH_ready (rs := [38]) (by kernel_rfl) (by simp) ?_
  refine AllReadyH.cons (o := ⟨_, _, _, _, _, _⟩) rfl (fun K hK => ?_) AllReadyH.nil
  go_simp
  refine (ddown_any _ w.heap.size g bmd vdd vwd e5 (qD.below Sb)).mono ?_
  rintro e wX ⟨rfl, hww⟩
  rw [hww, show e5.down = true from rfl]
  try simp only []
  refine hK.out _ _ (Sb) (fun hHeld => ?_)
  clear hK K
  try simp only [Act.put, List.setIfInBounds_toArray, List.set_cons_zero, List.set_cons_succ]
  refine wpAnyH_take (i := 39) (oi := ⟨_, _, _, _, _, _⟩) (v := ?_) rfl (by kernel_rfl) (by kernel_rfl) (by kernel_rfl) (fun _ _ _ h => h) (Or.inl ⟨by rfl, ?_⟩) (by assumption) ?_
  rotate_left
  · intro W hSW; (try dsimp only at hSW); go_simp; try with_reducible rfl
  try simp only [Act.put, List.setIfInBounds_toArray, List.set_cons_zero, List.set_cons_succ]
  refine wpAnyH_take (i := 40) (oi := ⟨_, _, _, _, _, _⟩) (v := ?_) rfl (by kernel_rfl) (by kernel_rfl) (by kernel_rfl) (fun _ _ _ h => h) (Or.inl ⟨by rfl, ?_⟩) (by assumption) ?_
  rotate_left
  · intro W hSW; (try dsimp only at hSW); go_simp; try with_reducible rfl
  try simp only [Act.put, List.setIfInBounds_toArray, List.set_cons_zero, List.set_cons_succ]
  refine wpAnyH_take (i := 41) (oi := ⟨_, _, _, _, _, _⟩) (v := ?_) rfl (by kernel_rfl) (by kernel_rfl) (by kernel_rfl) (fun _ _ _ h => h) (Or.inl ⟨by rfl, ?_⟩) (by assumption) ?_
  rotate_left
  · intro W hSW; (try dsimp only at hSW); go_simp; try with_reducible rfl
  try simp only [Act.put, List.setIfInBounds_toArray, List.set_cons_zero, List.set_cons_succ]
  refine wpAnyH_take (i := 42) (oi := ⟨_, _, _, _, _, _⟩) (v := ?_) rfl (by kernel_rfl) (by kernel_rfl) (by kernel_rfl) (fun _ _ _ h => h) (Or.inl ⟨by rfl, ?_⟩) (by assumption) ?_
  rotate_left
  · intro W hSW; (try dsimp only at hSW); go_simp; try with_reducible rfl
  try simp only [Act.put, List.setIfInBounds_toArray, List.set_cons_zero, List.set_cons_succ]
  refine wpAnyH_take (i := 43) (oi := ⟨_, _, _, _, _, _⟩) (v := ?_) rfl (by kernel_rfl) (by kernel_rfl) (by kernel_rfl) (fun _ _ _ h => h) (Or.inl ⟨by rfl, ?_⟩) (by assumption) ?_
  rotate_left
  · intro W hSW; (try dsimp only at hSW); go_simp; try with_reducible rfl
  try simp only [Act.put, List.setIfInBounds_toArray, List.set_cons_zero, List.set_cons_succ]
  refine wpAnyH_take (i := 44) (oi := ⟨_, _, _, _, _, _⟩) (v := ?_) rfl (by kernel_rfl) (by kernel_rfl) (by kernel_rfl) (fun _ _ _ h => h) (Or.inl ⟨by rfl, ?_⟩) (by assumption) ?_
  rotate_left
  · intro W hSW; (try dsimp only at hSW); go_simp; try with_reducible rfl
  try simp only [Act.put, List.setIfInBounds_toArray, List.set_cons_zero, List.set_cons_succ]
  refine wpAnyH_take (i := 45) (oi := ⟨_, _, _, _, _, _⟩) (v := ?_) rfl (by kernel_rfl) (by kernel_rfl) (by kernel_rfl) (fun _ _ _ h => h) (Or.inl ⟨by rfl, ?_⟩) (by assumption) ?_
  rotate_left
  · intro W hSW; (try dsimp only at hSW); go_simp; try with_reducible rfl
  try simp only [Act.put, List.setIfInBounds_toArray, List.set_cons_zero, List.set_cons_succ]
  refine wpAnyH_take (i := 46) (oi := ⟨_, _, _, _, _, _⟩) (v := ?_) rfl (by kernel_rfl) (by kernel_rfl) (by kernel_rfl) (fun _ _ _ h => h) (Or.inl ⟨by rfl, ?_⟩) (by assumption) ?_
  rotate_left
  · intro W hSW; (try dsimp only at hSW); go_simp; try with_reducible rfl
  try simp only [Act.put, List.setIfInBounds_toArray, List.set_cons_zero, List.set_cons_succ]
  refine wpAnyH_take (i := 47) (oi := ⟨_, _, _, _, _, _⟩) (v := ?_) rfl (by kernel_rfl) (by kernel_rfl) (by kernel_rfl) (fun _ _ _ h => h) (Or.inl ⟨by rfl, ?_⟩) (by assumption) ?_
  rotate_left
  · intro W hSW; (try dsimp only at hSW); go_simp; try with_reducible rfl
  try simp only [Act.put, List.setIfInBounds_toArray, List.set_cons_zero, List.set_cons_succ]
  refine wpAnyH_take (i := 48) (oi := ⟨_, _, _, _, _, _⟩) (v := ?_) rfl (by kernel_rfl) (by kernel_rfl) (by kernel_rfl) (fun _ _ _ h => h) (Or.inl ⟨by rfl, ?_⟩) (by assumption) ?_
  rotate_left
  · intro W hSW; (try dsimp only at hSW); go_simp; try with_reducible rfl
  try simp only [Act.put, List.setIfInBounds_toArray, List.set_cons_zero, List.set_cons_succ]
  refine wpAnyH_take (i := 49) (oi := ⟨_, _, _, _, _, _⟩) (v := ?_) rfl (by kernel_rfl) (by kernel_rfl) (by kernel_rfl) (fun _ _ _ h => h) (Or.inl ⟨by rfl, ?_⟩) (by assumption) ?_
  rotate_left
  · intro W hSW; (try dsimp only at hSW); go_simp; try with_reducible rfl
  try simp only [Act.put, List.setIfInBounds_toArray, List.set_cons_zero, List.set_cons_succ]
  refine wpAnyH_take (i := 50) (oi := ⟨_, _, _, _, _, _⟩) (v := ?_) rfl (by kernel_rfl) (by kernel_rfl) (by kernel_rfl) (fun _ _ _ h => h) (Or.inl ⟨by rfl, ?_⟩) (by assumption) ?_
  rotate_left
  · intro W hSW; (try dsimp only at hSW); go_simp; try with_reducible rfl
  try simp only [Act.put, List.setIfInBounds_toArray, List.set_cons_zero, List.set_cons_succ]
  refine wpAnyH_take (i := 51) (oi := ⟨_, _, _, _, _, _⟩) (v := ?_) rfl (by kernel_rfl) (by kernel_rfl) (by kernel_rfl) (fun _ _ _ h => h) (Or.inl ⟨by rfl, ?_⟩) (by assumption) ?_
  rotate_left
  · intro W hSW; (try dsimp only at hSW); go_simp; try with_reducible rfl
  try simp only [Act.put, List.setIfInBounds_toArray, List.set_cons_zero, List.set_cons_succ]
  refine wpAnyH_take (i := 52) (oi := ⟨_, _, _, _, _, _⟩) (v := ?_) rfl (by kernel_rfl) (by kernel_rfl) (by kernel_rfl) (fun _ _ _ h => h) (Or.inl ⟨by rfl, ?_⟩) (by assumption) ?_
  rotate_left
  · intro W hSW; refine exec_load_mid 43 (.tmp 109) ?_ gi (1 * 256) ?_ (fillSec 5).cs _ (fun j v hj => (hSW.cell (p := ⟨gi, 1 * 256 + j, none⟩) hgi).trans (sec_range qi et_get j v hj)) Try.underlying43 rfl (sec_size _) <;> rfl
  try simp only [Act.put, List.setIfInBounds_toArray, List.set_cons_zero, List.set_cons_succ]
  refine wpAnyH_ready (rs := [53]) (by kernel_rfl) (by simp) ?_
  refine AllReadyH.cons (o := ⟨_, _, _, _, _, _⟩) rfl (fun K hK => ?_) AllReadyH.nil
  go_simp
  refine (filled_any _ 5).mono ?_
  rintro e wc ⟨rfl, hbc⟩
  have Sc : Below wd.heap.size wd wc := Sb.trans (hbc.mono Sb.size)
  try simp only []
  refine hK.out _ _ (Sc) (fun hHeld => ?_)
  clear hK K
  try simp only [Act.put, List.setIfInBounds_toArray, List.set_cons_zero, List.set_cons_succ]
  refine wpAnyH_take (i := 54) (oi := ⟨_, _, _, _, _, _⟩) (v := .bool true) rfl (by kernel_rfl) (by kernel_rfl) (by kernel_rfl) (fun _ _ _ h => h) (Or.inl ⟨by rfl, ?_⟩) (by assumption) ?_
  · intro W hSW; refine (exec_eql_bytes 43 (.tmp 110) (.tmp 111) 43 ?_ Try.underlying43 Try.underlying5 Try.cells5' Try.guardS (xs := (fillSec 5).1) (ys := (fillSec 5).1) ?_ ?_ (fillSec 5).2 (fillSec 5).2).trans (by rw [beq_self_eq_true]) <;> rfl
  try simp only [Act.put, List.setIfInBounds_toArray, List.set_cons_zero, List.set_cons_succ]
  refine wpAnyH_take (i := 55) (oi := ⟨_, _, _, _, _, _⟩) (v := ?_) rfl (by kernel_rfl) (by kernel_rfl) (by kernel_rfl) (fun _ _ _ h => h) (Or.inl ⟨by rfl, ?_⟩) (by assumption) ?_
  rotate_left
  · intro W hSW; (try dsimp only at hSW); go_simp; try with_reducible rfl
  try simp only [Act.put, List.setIfInBounds_toArray, List.set_cons_zero, List.set_cons_succ]
  refine wpAnyH_take (i := 56) (oi := ⟨_, _, _, _, _, _⟩) (v := ?_) rfl (by kernel_rfl) (by kernel_rfl) (by kernel_rfl) (fun _ _ _ h => h) (Or.inl ⟨by rfl, ?_⟩) (by assumption) ?_
  rotate_left
  · intro W hSW; (try dsimp only at hSW); go_simp; try with_reducible rfl
  try simp only [Act.put, List.setIfInBounds_toArray, List.set_cons_zero, List.set_cons_succ]
  refine wpAnyH_take (i := 57) (oi := ⟨_, _, _, _, _, _⟩) (v := ?_) rfl (by kernel_rfl) (by kernel_rfl) (by kernel_rfl) (fun _ _ _ h => h) (Or.inl ⟨by rfl, ?_⟩) (by assumption) ?_
  rotate_left
  · intro W hSW; (try dsimp only at hSW); go_simp; try with_reducible rfl
  try simp only [Act.put, List.setIfInBounds_toArray, List.set_cons_zero, List.set_cons_succ]
  refine wpAnyH_ready (rs := [58]) (by kernel_rfl) (by simp) ?_
  refine AllReadyH.cons (o := ⟨_, _, _, _, _, _⟩) rfl (fun K hK => ?_) AllReadyH.nil
  go_simp
  refine (dsize_any _ w.heap.size g bmd vdd vwd e5 (qD.below Sc)).mono ?_
  rintro e wX ⟨rfl, hww⟩
  rw [hww, show e5.dur.length = 3 from rfl]
  try simp only []
  refine hK.out _ _ (Sc) (fun hHeld => ?_)
  clear hK K
  try simp only [Act.put, List.setIfInBounds_toArray, List.set_cons_zero, List.set_cons_succ]
  refine wpAnyH_take (i := 59) (oi := ⟨_, _, _, _, _, _⟩) (v := ?_) rfl (by kernel_rfl) (by kernel_rfl) (by kernel_rfl) (fun _ _ _ h => h) (Or.inl ⟨by rfl, ?_⟩) (by assumption) ?_
  rotate_left
  · intro W hSW; (try dsimp only at hSW); go_simp; try with_reducible rfl
  try simp only [Act.put, List.setIfInBounds_toArray, List.set_cons_zero, List.set_cons_succ]
  refine wpAnyH_take (i := 60) (oi := ⟨_, _, _, _, _, _⟩) (v := ?_) rfl (by kernel_rfl) (by kernel_rfl) (by kernel_rfl) (fun _ _ _ h => h) (Or.inl ⟨by rfl, ?_⟩) (by assumption) ?_
  rotate_left
  · intro W hSW; (try dsimp only at hSW); go_simp; try with_reducible rfl
  try simp only [Act.put, List.setIfInBounds_toArray, List.set_cons_zero, List.set_cons_succ]
  refine wpAnyH_take (i := 61) (oi := ⟨_, _, _, _, _, _⟩) (v := ?_) rfl (by kernel_rfl) (by kernel_rfl) (by kernel_rfl) (fun _ _ _ h => h) (Or.inl ⟨by rfl, ?_⟩) (by assumption) ?_
  rotate_left
  · intro W hSW; (try dsimp only at hSW); go_simp; try with_reducible rfl
  try simp only [Act.put, List.setIfInBounds_toArray, List.set_cons_zero, List.set_cons_succ]
  refine wpAnyH_take (i := 62) (oi := ⟨_, _, _, _, _, _⟩) (v := ?_) rfl (by kernel_rfl) (by kernel_rfl) (by kernel_rfl) (fun _ _ _ h => h) (Or.inl ⟨by rfl, ?_⟩) (by assumption) ?_
  rotate_left
  · intro W hSW; (try dsimp only at hSW); go_simp; try with_reducible rfl
  try simp only [Act.put, List.setIfInBounds_toArray, List.set_cons_zero, List.set_cons_succ]
  refine wpAnyH_ready (rs := [63]) (by kernel_rfl) (by simp) ?_
  refine AllReadyH.cons (o := ⟨_, _, _, _, _, _⟩) rfl (fun K hK => ?_) AllReadyH.nil
  go_simp
  refine (dsteps_any _ w.heap.size g bmd vdd vwd e5 (qD.below Sc)).mono ?_
  rintro e wX ⟨rfl, hww⟩
  rw [hww, show e5.steps = 1 from rfl]
  try simp only []
  refine hK.out _ _ (Sc) (fun hHeld => ?_)
  clear hK K
  try simp only [Act.put, List.setIfInBounds_toArray, List.set_cons_zero, List.set_cons_succ]
  refine wpAnyH_take (i := 64) (oi := ⟨_, _, _, _, _, _⟩) (v := ?_) rfl (by kernel_rfl) (by kernel_rfl) (by kernel_rfl) (fun _ _ _ h => h) (Or.inl ⟨by rfl, ?_⟩) (by assumption) ?_
  rotate_left
  · intro W hSW; (try dsimp only at hSW); go_simp; try with_reducible rfl
  try simp only [Act.put, List.setIfInBounds_toArray, List.set_cons_zero, List.set_cons_succ]
  refine wpAnyH_take (i := 65) (oi := ⟨_, _, _, _, _, _⟩) (v := ?_) rfl (by kernel_rfl) (by kernel_rfl) (by kernel_rfl) (fun _ _ _ h => h) (Or.inl ⟨by rfl, ?_⟩) (by assumption) ?_
  rotate_left
  · intro W hSW; (try dsimp only at hSW); go_simp; try with_reducible rfl
  try simp only [Act.put, List.setIfInBounds_toArray, List.set_cons_zero, List.set_cons_succ]
  refine wpAnyH_take (i := 66) (oi := ⟨_, _, _, _, _, _⟩) (v := ?_) rfl (by kernel_rfl) (by kernel_rfl) (by kernel_rfl) (fun _ _ _ h => h) (Or.inl ⟨by rfl, ?_⟩) (by assumption) ?_
  rotate_left
  · intro W hSW; (try dsimp only at hSW); go_simp; try with_reducible rfl
  try simp only [Act.put, List.setIfInBounds_toArray, List.set_cons_zero, List.set_cons_succ]
  refine wpAnyH_take (i := 67) (oi := ⟨_, _, _, _, _, _⟩) (v := ?_) rfl (by kernel_rfl) (by kernel_rfl) (by kernel_rfl) (fun _ _ _ h => h) (Or.inl ⟨by rfl, ?_⟩) (by assumption) ?_
  rotate_left
  · intro W hSW; (try dsimp only at hSW); go_simp; try with_reducible rfl
  try simp only [Act.put, List.setIfInBounds_toArray, List.set_cons_zero, List.set_cons_succ]
  refine wpAnyH_ready (rs := [68]) (by kernel_rfl) (by simp) ?_
  refine AllReadyH.cons (o := ⟨_, _, _, _, _, _⟩) rfl (fun K hK => ?_) AllReadyH.nil
  go_simp
  refine (dwaits_any _ w.heap.size g bmd vdd vwd e5 (qD.below Sc)).mono ?_
  rintro e wX ⟨rfl, hww⟩
  rw [hww, show e5.wait.length = 0 from rfl]
  try simp only []
  refine hK.out _ _ (Sc) (fun hHeld => ?_)
  clear hK K
  try simp only [Act.put, List.setIfInBounds_toArray, List.set_cons_zero, List.set_cons_succ]
  refine wpAnyH_take (i := 69) (oi := ⟨_, _, _, _, _, _⟩) (v := ?_) rfl (by kernel_rfl) (by kernel_rfl) (by kernel_rfl) (fun _ _ _ h => h) (Or.inl ⟨by rfl, ?_⟩) (by assumption) ?_
  rotate_left
  · intro W hSW; (try dsimp only at hSW); go_simp; try with_reducible rfl
  try simp only [Act.put, List.setIfInBounds_toArray, List.set_cons_zero, List.set_cons_succ]
  refine wpAnyH_take (i := 70) (oi := ⟨_, _, _, _, _, _⟩) (v := ?_) rfl (by kernel_rfl) (by kernel_rfl) (by kernel_rfl) (fun _ _ _ h => h) (Or.inl ⟨by rfl, ?_⟩) (by assumption) ?_
  rotate_left
  · intro W hSW; (try dsimp only at hSW); go_simp; try with_reducible rfl
  try simp only [Act.put, List.setIfInBounds_toArray, List.set_cons_zero, List.set_cons_succ]
  refine wpAnyH_take (i := 71) (oi := ⟨_, _, _, _, _, _⟩) (v := ?_) rfl (by kernel_rfl) (by kernel_rfl) (by kernel_rfl) (fun _ _ _ h => h) (Or.inl ⟨by rfl, ?_⟩) (by assumption) ?_
  rotate_left
  · intro W hSW; (try dsimp only at hSW); go_simp; try with_reducible rfl
  try simp only [Act.put, List.setIfInBounds_toArray, List.set_cons_zero, List.set_cons_succ]
  refine wpAnyH_take (i := 72) (oi := ⟨_, _, _, _, _, _⟩) (v := ?_) rfl (by kernel_rfl) (by kernel_rfl) (by kernel_rfl) (fun _ _ _ h => h) (Or.inl ⟨by rfl, ?_⟩) (by assumption) ?_
  rotate_left
  · intro W hSW; (try dsimp only at hSW); go_simp; try with_reducible rfl
  try simp only [Act.put, List.setIfInBounds_toArray, List.set_cons_zero, List.set_cons_succ]
  refine wpAnyH_ready (rs := [73]) (by kernel_rfl) (by simp) ?_
  refine AllReadyH.cons (o := ⟨_, _, _, _, _, _⟩) rfl (fun K hK => ?_) AllReadyH.nil
  go_simp
  refine (dpending_any _ w.heap.size g bmd vdd vwd e5 e5_ok (qD.below Sc)).mono ?_
  rintro e wp ⟨gp, rfl, hop, hbp⟩
  rw [show e5.wait.length = 0 from rfl]
  have Sp : Below wd.heap.size wd wp := Sc.trans (hbp.mono Sc.size)
  try simp only []
  refine hK.out _ _ (Sp) (fun hHeld => ?_)
  clear hK K
  try simp only [Act.put, List.setIfInBounds_toArray, List.set_cons_zero, List.set_cons_succ]
  refine wpAnyH_take (i := 74) (oi := ⟨_, _, _, _, _, _⟩) (v := ?_) rfl (by kernel_rfl) (by kernel_rfl) (by kernel_rfl) (fun _ _ _ h => h) (Or.inl ⟨by rfl, ?_⟩) (by assumption) ?_
  rotate_left
  · intro W hSW; (try dsimp only at hSW); go_simp; try with_reducible rfl
  try simp only [Act.put, List.setIfInBounds_toArray, List.set_cons_zero, List.set_cons_succ]
  refine wpAnyH_take (i := 75) (oi := ⟨_, _, _, _, _, _⟩) (v := ?_) rfl (by kernel_rfl) (by kernel_rfl) (by kernel_rfl) (fun _ _ _ h => h) (Or.inl ⟨by rfl, ?_⟩) (by assumption) ?_
  rotate_left
  · intro W hSW; (try dsimp only at hSW); go_simp; try with_reducible rfl
  try simp only [Act.put, List.setIfInBounds_toArray, List.set_cons_zero, List.set_cons_succ]
  refine wpAnyH_take (i := 76) (oi := ⟨_, _, _, _, _, _⟩) (v := ?_) rfl (by kernel_rfl) (by kernel_rfl) (by kernel_rfl) (fun _ _ _ h => h) (Or.inl ⟨by rfl, ?_⟩) (by assumption) ?_
  rotate_left
  · intro W hSW; (try dsimp only at hSW); go_simp; try with_reducible rfl
  try simp only [Act.put, List.setIfInBounds_toArray, List.set_cons_zero, List.set_cons_succ]
  refine wpAnyH_take (i := 77) (oi := ⟨_, _, _, _, _, _⟩) (v := ?_) rfl (by kernel_rfl) (by kernel_rfl) (by kernel_rfl) (fun _ _ _ h => h) (Or.inl ⟨by rfl, ?_⟩) (by assumption) ?_
  rotate_left
  · intro W hSW; (try dsimp only at hSW); go_simp; try with_reducible rfl
  try simp only [Act.put, List.setIfInBounds_toArray, List.set_cons_zero, List.set_cons_succ]
  refine wpAnyH_done (by kernel_rfl) ?_ _

  go_wp2_with fail
  go_ret
  exact ⟨rfl, qB.trans (Sp.mono qB.size)⟩
end Go.Proofs.Ytamjkmelfpdhiaa
