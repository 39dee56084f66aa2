/-
  Layer 10: the contract of Read.
-/
import Derived.Test.YticlbefbnfnlmaaPkSlmS
import Derived.Deep.RegionHeld3
namespace Go.Proofs.Yticlbefbnfnlmaa
open Go.RowKit
set_option linter.unusedVariables false
set_option linter.unusedSimpArgs false

/-- What Read answers. -/
def ReadV (w w' : World) (n : Int) (x : Sec) (e : Ending) : Prop :=
  if 1 ≤ n ∧ n ≤ 200 then
    match readS10 n.toNat x with
    | some ss => ∃ b g c, e = .returned (.tuple #[.pointer (some ⟨b, 0, none⟩), .int .i64 0]) ∧ MapAt w' b g c ss ∧ w.heap.size ≤ b ∧ w.heap.size ≤ g ∧ Below w.heap.size w w'
    | none => e = .returned (.tuple #[.pointer none, .int .i64 5]) ∧ Below w.heap.size w w'
  else e = .returned (.tuple #[.pointer none, .int .i64 2]) ∧ Below w.heap.size w w'
/-- The states when k of the n are read. -/
def rdK (x : Sec) (k n : Nat) : List UInt8 := unS x k ++ List.replicate (n - k) 0
theorem rdK_length {x : Sec} {k n : Nat} (h : k ≤ n) : (rdK x k n).length = n := by rw [rdK, List.length_append, unS_length, List.length_replicate]; omega
theorem rdK_set {x : Sec} {k n : Nat} (h : k < n) (hu : unB x k ≤ 2) : setM10 (rdK x k n) (k : Int) (unB x k : Int) = rdK x (k + 1) n ∧ setC10 (rdK x k n) (k : Int) (unB x k : Int) = 0 := by
  have hc : setC10 (rdK x k n) (k : Int) (unB x k : Int) = 0 := by
    unfold setC10
    rw [if_pos (by rw [rdK_length (by omega)]; omega), if_pos (by omega)]
  refine ⟨?_, hc⟩
  unfold setM10
  rw [if_pos hc, Int.toNat_natCast, Int.toNat_natCast]
  unfold rdK
  rw [List.set_append_right _ _ (by rw [unS_length]; exact Nat.le_refl _), unS_length, Nat.sub_self, show n - k = (n - (k + 1)) + 1 by omega, List.replicate_succ, List.set_cons_zero, unS_succ, List.append_assoc]
  rfl
theorem rdK_bad {x : Sec} {k n : Nat} (h : k < n) (hu : 2 < unB x k) : setC10 (rdK x k n) (k : Int) (unB x k : Int) = 1 := by
  unfold setC10
  rw [if_pos (by rw [rdK_length (by omega)]; omega), if_neg (by omega)]
theorem badN_succ {x : Sec} {k : Nat} (h : badN x k = false) (hu : unB x k ≤ 2) : badN x (k + 1) = false := by
  unfold badN at *
  rw [List.range_succ, List.any_append, h]
  simp
  omega

theorem and_three {p r : Nat} (h : p < 256) : bits .and .u8 ((p : Int) / 2 ^ (2 * (r : Int)).toNat) 3 = ((p / 4 ^ r % 4 : Nat) : Int) := by
  have e : (p : Int) / 2 ^ (2 * (r : Int)).toNat = ((p / 4 ^ r : Nat) : Int) := by
    rw [show (2 * (r : Int)).toNat = 2 * r by omega, show (4 : Nat) ^ r = 2 ^ (2 * r) from (Nat.pow_mul 2 2 r).symm, Int.natCast_ediv, Int.natCast_pow]
    rfl
  have hlt : p / 4 ^ r < 256 := Nat.lt_of_le_of_lt (Nat.div_le_self _ _) h
  rw [e, show (3 : Int) = ((3 : Nat) : Int) from rfl, u8_and_nat _ _ hlt (by omega)]
  congr 1
  exact Nat.and_two_pow_sub_one_eq_mod (p / 4 ^ r) 2
set_option maxRecDepth 100000 in
set_option maxHeartbeats 4000000 in
theorem sread_any (w : World) (n : Int) (x : Sec) :
    Calls Try.prog 16 #[.int .i64 n, .agg x.cs.toArray] w fun e w' => ReadV w w' n x e := by
  go_enter Try.func16, Try.ntmps16
  go_wp2_with ((with_reducible refine at_box 42 ?_); refine wpList_box_rowV rfl 42 _ rfl x.cs rfl ?_)
  intro w1 hr1 hb1 hs1
  generalize hN : w.heap.size = N at *
  by_cases hn : 1 ≤ n ∧ n ≤ 200
  · obtain ⟨m, rfl⟩ : ∃ m : Nat, n = m := ⟨n.toNat, by omega⟩
    go_wp2_with fail
    refine (snew_any w1 (m : Int)).mono ?_
    rintro e w2 hv
    unfold NewV at hv
    rw [if_pos hn, Int.toNat_natCast] at hv
    obtain ⟨b, g, c, rfl, hm2, hb, hg, hb2⟩ := hv
    have hr2 := hr1.below (by omega) hb2
    have hB2 := hb1.trans (hb2.mono (by omega))
    obtain ⟨h1, h2⟩ := hn
    clear hr1 hb1 hb2
    go_wp2_with fail
    have HM : Hid (MapAt w2 b g c (rdK x 0 m)) := hm2
    have HX := Lib.hid hr2
    have HB := Lib.hid hB2
    have HD : Hid (badN x 0 = false) := rfl
    have hs2 : N + 1 ≤ w2.heap.size := by have := hm2.blt; omega
    have hbN : N + 1 ≤ b := by omega
    have hgN : N + 1 ≤ g := by omega
    clear hm2 hr2 hB2 hb hg
    go_loopw [18] (fun i W => ∃ k : Nat, k ≤ m ∧ i = .int .i64 k ∧ Hid (MapAt W b g c (rdK x k m)) ∧ Hid (badN x k = false) ∧ Hid (RowV W N 42 x.cs) ∧ Hid (Below N w W) ∧ Hid (N + 1 ≤ W.heap.size)) (fun i _ => m - (intOf i).toNat)
    case atStart => exact ⟨0, Nat.zero_le _, rfl, HM, HD, HX, HB, hs2⟩
    case round =>
      obtain ⟨k, hk, rfl, HM, HD, HX, HB, HZ⟩ := hrel
      by_cases hlt : k < m
      · have hlt' : (k : Int) < (m : Int) := by omega
        have h64 : k / 4 < 256 := by omega
        have cx := sec_byte HX.out (k / 4) h64
        have hr4 : k % 4 < 4 := Nat.mod_lt _ (by omega)
        have Hu : Hid (unB x k = (x.1.getD (k / 4) 0).toNat / 4 ^ (k % 4) % 4) := rfl
        have hb8 := (x.1.getD (k / 4) 0).toNat_lt
        generalize (x.1.getD (k / 4) 0).toNat = p at *
        go_wp2_with fail
        obtain ⟨j, hj⟩ : ∃ j, k / 4 = j := ⟨_, rfl⟩
        obtain ⟨r, hr⟩ : ∃ r, k % 4 = r := ⟨_, rfl⟩
        have Hs := Lib.hid (show _ from sshift_any wr.drew k (by omega))
        rw [hr] at Hs hr4 Hu
        rw [hj] at h64 cx
        have cX : wr.drew.cell? ⟨N, j, none⟩ = some (.int .u8 (p : Int)) := cx
        have d1 : (k : Int) / 4 = (j : Int) := by omega
        have d2 : (j : Int) < 256 := by omega
        have d3 : (0 : Int) ≤ (j : Int) := by omega
        have d4 : IntKind.i64.wrap (j : Int) = (j : Int) := IntWalk.i64_in _ (by omega)
        obtain ⟨u, hu⟩ : ∃ u, unB x k = u := ⟨_, rfl⟩
        have hu4 : u < 4 := by rw [← hu]; exact unB_lt x k
        have e1 : bits .and .u8 ((p : Int) / 2 ^ (2 * (r : Int)).toNat) 3 = (u : Int) := by
          rw [← hu, Hu.out]
          exact and_three hb8
        have e2 : IntKind.i64.wrap (u : Int) = (u : Int) := IntWalk.i64_in _ (by omega)
        have Huu := Lib.hid hu
        clear hj hr cx hu
        refine wp_region_still_tail 11 (by kernel_rfl) (by kernel_rfl) ?_
        simp only [List.take_succ_cons, List.take_zero, List.drop_succ_cons, List.drop_zero]
        still_step
        still_step
        still_step
        still_step
        still_step
        still_step
        still_step
        still_call (still_of10 Hs.out)
        still_step
        still_step
        still_step
        refine wpStill_nil ?_
        change wpList _ _ _ _ _ wr.drew
        have hMd := HM.out.drew
        have HXd : Hid (RowV wr.drew N 42 x.cs) := HX.out
        have HBd : Hid (Below N w wr.drew) := HB.out.drew
        have HZd : Hid (N + 1 ≤ wr.drew.heap.size) := HZ.out
        clear e1 e2 d1 d2 d3 d4 cX Hs HX HB HZ HM
        generalize wr.drew = wd at *
        go_wp2_with fail
        refine (sset_any wd b g c _ hMd (k : Int) (u : Int)).mono ?_
        rintro e w3 ⟨rfl, hm3, hg3, hs3⟩
        have HX3 := Lib.hid (HXd.out.keep hg3 (fun e => by injection e with e; omega))
        have HB3 := Lib.hid (below_grown HBd.out hg3 (by omega) (by have := HZd.out; omega))
        have HZ3 : Hid (N + 1 ≤ w3.heap.size) := by have := HZd.out; show _ ≤ _; omega
        clear hMd HXd HBd HZd hg3 hs3
        by_cases hu2 : u ≤ 2
        · obtain ⟨e3, e4⟩ := rdK_set (x := x) hlt (by rw [Huu.out]; exact hu2)
          rw [Huu.out] at e3 e4
          rw [e3] at hm3
          rw [e4]
          have HD3 := Lib.hid (badN_succ HD.out (by rw [Huu.out]; exact hu2))
          have HM3 := Lib.hid hm3
          clear e3 e4 hm3
          go_wp2_with fail
          go_roundw
          case rel => exact ⟨k + 1, by omega, by go_num, HM3, HD3, HX3, HB3, HZ3⟩
          case measure => simp [intOf]; omega
        · have e4 := rdK_bad (x := x) hlt (by rw [Huu.out]; omega)
          rw [Huu.out] at e4
          rw [e4]
          have Hno : Hid (readS10 m x = none) := by
            show _ = _
            unfold readS10
            rw [if_neg]
            rintro ⟨h, _⟩
            rw [badN_at hlt (by rw [Huu.out]; omega)] at h
            cases h
          clear e4 hm3
          go_wp2_with fail
          go_ret2
          unfold ReadV
          rw [if_pos ⟨h1, h2⟩, Int.toNat_natCast, Hno.out]
          exact ⟨rfl, by first | exact HB3.out | (rw [hN]; exact HB3.out)⟩
      · obtain rfl : k = m := by omega
        have hs : rdK x k k = unS x k := by rw [rdK, Nat.sub_self, List.replicate_zero, List.append_nil]
        have hm := HM.out
        rw [hs] at hm
        have HM := Lib.hid hm
        clear hm hs
        go_wp2_with fail
        obtain ⟨wd, hwd⟩ : ∃ wd, wr.drew = wd := ⟨_, rfl⟩
        have hSc : Below wd.heap.size wd wr.drew := by rw [hwd]; exact Below.refl _ _
        have hMd := HM.out.drew
        have hXd : RowV wr.drew N 42 x.cs := HX.out
        have hBd : Below N w wr.drew := HB.out.drew
        have hZd : N + 1 ≤ wr.drew.heap.size := HZ.out
        rw [hwd] at hMd hXd hBd hZd
        clear HM HX HB HZ
        refine wp_region_held_drew (S := fun W => Below wd.heap.size wd W) (by kernel_rfl) hSc (fun hHeld => ?_)
        rw [hwd] at hSc hHeld ⊢
        clear hwd
        have szS := sec_size x
        have hNs : N < wd.heap.size := by omega
        refine wpAnyH_take (i := 0) (oi := ⟨_, _, _, _, _, _⟩) (v := ?_) rfl (by kernel_rfl) (by kernel_rfl) (by kernel_rfl) (fun _ _ _ h => h) (Or.inl ⟨by rfl, ?_⟩) (by assumption) ?_
        rotate_left
        · intro W hSW; go_simp; try with_reducible rfl
        try simp only [Act.put, List.setIfInBounds_toArray, List.set_cons_zero, List.set_cons_succ]
        refine wpAnyH_take (i := 2) (oi := ⟨_, _, _, _, _, _⟩) (v := ?_) rfl (by kernel_rfl) (by kernel_rfl) (by kernel_rfl) (fun _ _ _ h => h) (Or.inl ⟨by rfl, ?_⟩) (by assumption) ?_
        rotate_left
        · intro W hSW; refine exec_load_row 42 (.tmp 3) ?_ N ?_ _ (hXd.below hNs hSW) Try.underlying42 rfl szS <;> rfl
        try simp only [Act.put, List.setIfInBounds_toArray, List.set_cons_zero, List.set_cons_succ]
        refine wpAnyH_ready (rs := [1]) (by kernel_rfl) (by simp) ?_
        refine AllReadyH.cons (o := ⟨_, _, _, _, _, _⟩) rfl (fun K hK => ?_) AllReadyH.nil
        go_simp
        refine (sput_any wd b g c _ hMd).mono ?_
        rintro e w4 ⟨rfl, hb4⟩
        try simp only []
        have hS4 := hSc.trans (hb4.mono hSc.size)
        refine hK.out _ _ hS4 (fun hHeld => ?_)
        clear hK K hSc
        have hSc := hS4
        clear hS4 hb4
        try simp only [Act.put, List.setIfInBounds_toArray, List.set_cons_zero, List.set_cons_succ]
        refine wpAnyH_take (i := 3) (oi := ⟨_, _, _, _, _, _⟩) (v := .bool (!decide (putS10 (unS x k) = x))) rfl (by kernel_rfl) (by kernel_rfl) (by kernel_rfl) (fun _ _ _ h => h) (Or.inl ⟨by rfl, ?_⟩) (by assumption) ?_
        · intro W hSW; exact exec_neq_sec (.tmp 36) (.tmp 37) 42 rfl (putS10 (unS x k)) x rfl rfl
        try simp only [Act.put, List.setIfInBounds_toArray, List.set_cons_zero, List.set_cons_succ]
        refine wpAnyH_done (by kernel_rfl) ?_ _
        have hBe := hBd.trans (hSc.mono (by omega))
        have hMe := hMd.later hSc
        have hN1 : N ≤ b := by omega
        have hN2 : N ≤ g := by omega
        by_cases hp : putS10 (unS x k) = x
        · have ht : Hid (readS10 k x = some (unS x k)) := by show _ = _; unfold readS10; rw [if_pos ⟨HD.out, hp⟩]
          rw [decide_eq_true hp]
          clear hp
          go_wp2_with fail
          go_ret2
          unfold ReadV
          rw [if_pos ⟨h1, h2⟩, Int.toNat_natCast, ht.out]
          exact ⟨b, g, c, rfl, hMe, by first | exact hN1 | (rw [hN]; exact hN1), by first | exact hN2 | (rw [hN]; exact hN2), by first | exact hBe | (rw [hN]; exact hBe)⟩
        · have ht : Hid (readS10 k x = none) := by show _ = _; unfold readS10; rw [if_neg (fun h => hp h.2)]
          rw [decide_eq_false hp]
          clear hp
          go_wp2_with fail
          go_ret2
          unfold ReadV
          rw [if_pos ⟨h1, h2⟩, Int.toNat_natCast, ht.out]
          exact ⟨rfl, by first | exact hBe | (rw [hN]; exact hBe)⟩
  · go_wp2_with fail
    refine (snew_any w1 n).mono ?_
    rintro e w2 hv
    unfold NewV at hv
    rw [if_neg hn] at hv
    obtain ⟨rfl, rfl⟩ := hv
    go_wp2_with fail
    go_ret2
    unfold ReadV
    rw [if_neg hn]
    exact ⟨rfl, by first | exact hb1 | (rw [hN]; exact hb1)⟩
end Go.Proofs.Yticlbefbnfnlmaa
