/-
  Layer 7: the walk of the law PlanParts.
-/
import Derived.Test.YtabigpbnacfajaaPlanM
import Derived.Test.YtabigpbnacfajaaPlanO
import Derived.Deep.RegionHeld3
namespace Go.Proofs.Ytabigpbnacfajaa
open Go.RowKit
set_option linter.unusedVariables false

theorem firstB_any (w : World) (B : Nat) (A : Option Addr) (m cap n t c a s : Nat) (word : Nm) (hm : m = (partsL n t c a s).length) (h : LiesV w B A (nms (partsL n t c a s))) (hc : (partsL n t c a s).length ≤ cap) (hlen : (partsL n t c a s).length ≤ 10000) (k : Nat) (hk : k < (partsL n t c a s).length) (h1 : pN n t c a s k = word) (h2 : ∀ j : Nat, j < k → pN n t c a s j ≠ word) (v : Int) (hv : v = k) :
    Calls Try.prog 13 #[.slice A m cap, .string word.b] w fun e w' => e = .returned (.int .i64 v) ∧ Below w.heap.size w w' := by
  subst hv hm
  exact (first_any w B A cap _ word h hc k (by rw [partsL_get n t c a s hk, h1]) (pN_ne (by omega) h2) hlen).mono fun e w' ⟨e1, e2⟩ => ⟨e1, by rw [e2]; exact Below.refl _ _⟩
theorem first_index (w : World) (B : Nat) (A : Option Addr) (m cap n t c a s : Nat) (hm : m = (partsL n t c a s).length) (h : LiesV w B A (nms (partsL n t c a s))) (hc : m ≤ cap) (hlen : m ≤ 10000) (hn : 1 ≤ n) (ht : 1 ≤ t) (hcc : 1 ≤ c) (ha : 1 ≤ a) (hs : 1 ≤ s) :
    Calls Try.prog 13 #[.slice A m cap, .string ⟨#[105, 110, 100, 101, 120]⟩] w fun e w' => e = .returned (.int .i64 (5)) ∧ Below w.heap.size w w' := by
  have hl := partsL_length n t c a s
  exact firstB_any w B A m cap n t c a s .index_ hm h (by omega) (by omega) (5) (by omega) (pN_index_ (by omega) (by omega)) (before_index_ n t c a s) _ (by omega)
theorem first_text (w : World) (B : Nat) (A : Option Addr) (m cap n t c a s : Nat) (hm : m = (partsL n t c a s).length) (h : LiesV w B A (nms (partsL n t c a s))) (hc : m ≤ cap) (hlen : m ≤ 10000) (hn : 1 ≤ n) (ht : 1 ≤ t) (hcc : 1 ≤ c) (ha : 1 ≤ a) (hs : 1 ≤ s) :
    Calls Try.prog 13 #[.slice A m cap, .string ⟨#[116, 101, 120, 116]⟩] w fun e w' => e = .returned (.int .i64 (5 + (n : Int))) ∧ Below w.heap.size w w' := by
  have hl := partsL_length n t c a s
  exact firstB_any w B A m cap n t c a s .text_ hm h (by omega) (by omega) (5 + n) (by omega) (pN_text_ (by omega) (by omega)) (before_text_ n t c a s) _ (by omega)
theorem first_clip (w : World) (B : Nat) (A : Option Addr) (m cap n t c a s : Nat) (hm : m = (partsL n t c a s).length) (h : LiesV w B A (nms (partsL n t c a s))) (hc : m ≤ cap) (hlen : m ≤ 10000) (hn : 1 ≤ n) (ht : 1 ≤ t) (hcc : 1 ≤ c) (ha : 1 ≤ a) (hs : 1 ≤ s) :
    Calls Try.prog 13 #[.slice A m cap, .string ⟨#[99, 108, 105, 112]⟩] w fun e w' => e = .returned (.int .i64 (5 + (n : Int) + (t : Int))) ∧ Below w.heap.size w w' := by
  have hl := partsL_length n t c a s
  exact firstB_any w B A m cap n t c a s .clip_ hm h (by omega) (by omega) (5 + n + t) (by omega) (pN_clip_ (by omega) (by omega)) (before_clip_ n t c a s) _ (by omega)
theorem first_audit (w : World) (B : Nat) (A : Option Addr) (m cap n t c a s : Nat) (hm : m = (partsL n t c a s).length) (h : LiesV w B A (nms (partsL n t c a s))) (hc : m ≤ cap) (hlen : m ≤ 10000) (hn : 1 ≤ n) (ht : 1 ≤ t) (hcc : 1 ≤ c) (ha : 1 ≤ a) (hs : 1 ≤ s) :
    Calls Try.prog 13 #[.slice A m cap, .string ⟨#[97, 117, 100, 105, 116]⟩] w fun e w' => e = .returned (.int .i64 (5 + (n : Int) + (t : Int) + (c : Int))) ∧ Below w.heap.size w w' := by
  have hl := partsL_length n t c a s
  exact firstB_any w B A m cap n t c a s .audit_ hm h (by omega) (by omega) (5 + n + t + c) (by omega) (pN_audit_ (by omega) (by omega)) (before_audit_ n t c a s) _ (by omega)
theorem first_head (w : World) (B : Nat) (A : Option Addr) (m cap n t c a s : Nat) (hm : m = (partsL n t c a s).length) (h : LiesV w B A (nms (partsL n t c a s))) (hc : m ≤ cap) (hlen : m ≤ 10000) (hn : 1 ≤ n) (ht : 1 ≤ t) (hcc : 1 ≤ c) (ha : 1 ≤ a) (hs : 1 ≤ s) :
    Calls Try.prog 13 #[.slice A m cap, .string ⟨#[104, 101, 97, 100]⟩] w fun e w' => e = .returned (.int .i64 (5 + (n : Int) + (t : Int) + (c : Int) + (a : Int))) ∧ Below w.heap.size w w' := by
  have hl := partsL_length n t c a s
  exact firstB_any w B A m cap n t c a s .head_ hm h (by omega) (by omega) (5 + n + t + c + a) (by omega) (pN_head_ (by omega) (by omega)) (before_head_ n t c a s) _ (by omega)
theorem first_body (w : World) (B : Nat) (A : Option Addr) (m cap n t c a s : Nat) (hm : m = (partsL n t c a s).length) (h : LiesV w B A (nms (partsL n t c a s))) (hc : m ≤ cap) (hlen : m ≤ 10000) (hn : 1 ≤ n) (ht : 1 ≤ t) (hcc : 1 ≤ c) (ha : 1 ≤ a) (hs : 1 ≤ s) :
    Calls Try.prog 13 #[.slice A m cap, .string ⟨#[98, 111, 100, 121]⟩] w fun e w' => e = .returned (.int .i64 (5 + (n : Int) + (t : Int) + (c : Int) + (a : Int) + 1)) ∧ Below w.heap.size w w' := by
  have hl := partsL_length n t c a s
  exact firstB_any w B A m cap n t c a s .body_ hm h (by omega) (by omega) (5 + n + t + c + a + 1) (by omega) (pN_body_ (by omega) (by omega)) (before_body_ n t c a s) _ (by omega)
theorem first_slot (w : World) (B : Nat) (A : Option Addr) (m cap n t c a s : Nat) (hm : m = (partsL n t c a s).length) (h : LiesV w B A (nms (partsL n t c a s))) (hc : m ≤ cap) (hlen : m ≤ 10000) (hn : 1 ≤ n) (ht : 1 ≤ t) (hcc : 1 ≤ c) (ha : 1 ≤ a) (hs : 1 ≤ s) :
    Calls Try.prog 13 #[.slice A m cap, .string ⟨#[115, 108, 111, 116]⟩] w fun e w' => e = .returned (.int .i64 (5 + (n : Int) + (t : Int) + (c : Int) + (a : Int) + 1 + ((n : Int) + (t : Int) + 9))) ∧ Below w.heap.size w w' := by
  have hl := partsL_length n t c a s
  exact firstB_any w B A m cap n t c a s .slot_ hm h (by omega) (by omega) (5 + n + t + c + a + 1 + (n + 9 + t)) (by omega) (pN_slot_ (by omega) (by omega)) (before_slot_ n t c a s) _ (by omega)
def layN (n t c a s : Nat) : List Value := lcs s t c a 5 (5 + (n : Int)) (5 + (n : Int) + (t : Int)) (5 + (n : Int) + (t : Int) + (c : Int)) (5 + (n : Int) + (t : Int) + (c : Int) + (a : Int)) (5 + (n : Int) + (t : Int) + (c : Int) + (a : Int) + 1) (5 + (n : Int) + (t : Int) + (c : Int) + (a : Int) + 1 + ((n : Int) + (t : Int) + 9)) (5 + (n : Int) + (t : Int) + (c : Int) + (a : Int) + 1 + ((n : Int) + (t : Int) + 9) + (s : Int)) ((n : Int) * 6) ((n : Int) + (t : Int) + 9)
theorem partB_any (w : World) (n t c a s : Nat) (at_ : Int) : Calls Try.prog 14 #[.agg (layN n t c a s).toArray, .int .i64 at_] w fun e w' => e = .returned (.string (pN n t c a s at_).b) ∧ Below w.heap.size w w' :=
  part_any w s t c a 5 _ _ _ _ _ _ _ _ _ at_
theorem boundN_any (w : World) (n t c a s : Nat) (h1 : 1 ≤ s) (h2 : s ≤ 200) : Calls Try.prog 12 #[.agg (layN n t c a s).toArray] w fun e w' => e = .returned (.int .i64 ((s : Int) + 1)) ∧ Below w.heap.size w w' :=
  bound_any w s t c a 5 _ _ _ _ _ _ _ _ _ (by omega) (by omega)
theorem indexN_any (w : World) (n t c a s : Nat) (h1 : 1 ≤ s) (h2 : s ≤ 200) (hn : (2 * (s : Int) + 5) / 6 = (n : Int)) : Calls Try.prog 11 #[.agg (pc s t c a).toArray] w fun e w' => e = .returned (.int .i64 (n : Int)) ∧ Below w.heap.size w w' := by
  have := rindex_any w (s : Int) t c a (by omega) (by omega)
  rw [hn] at this
  exact this

theorem pre_plan {s t c a x1 x2 x3 x4 x5 x6 x7 x8 x9 x10 : Int} {i : Nat} {v : Value} (h : (pc s t c a)[i]? = some v) : (lcs s t c a x1 x2 x3 x4 x5 x6 x7 x8 x9 x10)[i]? = some v := by
  match i, h with
  | 0, h => exact h
  | 1, h => exact h
  | 2, h => exact h
  | 3, h => exact h
  | k + 4, h => simp [pc] at h

set_option maxRecDepth 100000 in
set_option maxHeartbeats 2000000 in
theorem plans_any (w : World) (s t c a at_ : Int) :
    Calls Try.prog 3 #[.agg (pc s t c a).toArray, .int .i64 at_] w fun e w' => e = .returned (.bool true) ∧ Below w.heap.size w w' := by
  go_enter Try.func3, Try.ntmps3
  go_wp2_with ((with_reducible refine at_box 23 ?_); refine wpList_box_rowV rfl 23 _ rfl (pc s t c a) rfl ?_)
  intro w1 hp1 hb1 hz1
  have hz1' : w.heap.size < w1.heap.size := by omega
  generalize hN : w.heap.size = N at *
  go_wp2_with ((with_reducible refine at_load 23 ?_); refine load_plan rfl _ rfl N rfl hp1 ?_)
  refine (of_any _ _ _ _ _).mono ?_
  rintro e w2 ⟨rfl, hb2⟩
  have hp2 := hp1.below hz1' hb2
  have hB2 : Below N w w2 := hb1.trans (hb2.mono (by omega))
  have hz2 : N < w2.heap.size := by have := hb2.size; omega
  clear hp1 hb1 hz1 hz1' hb2
  generalize hcd : codeP s t c a = code at *
  have Hcd := Lib.hid hcd
  clear hcd
  go_wp2_with ((with_reducible refine at_alloc 25 ?_); refine wpList_alloc_rowV rfl 25 rfl lc0 Try.zeroL ?_)
  intro w3 hl3 hb3 hz3
  have hp3 := hp2.below hz2 hb3
  have hB3 : Below N w w3 := hB2.trans (hb3.mono (by omega))
  clear hp2 hB2 hb3
  generalize hG : w2.heap.size = G at *
  clear hG
  go_wp2_with ((with_reducible refine at_store 25 ?_); refine store_layO rfl _ _ rfl G s t c a rfl rfl hl3 rfl ?_)
  intro w4 hl4 hg4 hz4
  have hp4 := hp3.keep hg4 (fun e => by injection e with e; omega)
  have hB4 : Below N w w4 := below_grown hB3 hg4 (by omega) (by omega)
  have hz4' : G < w4.heap.size := by omega
  clear hp3 hB3 hl3 hg4 hz3 hz4
  go_wp2_with ((with_reducible refine at_load 23 ?_); refine load_plan rfl _ rfl N rfl hp4 ?_)
  refine (rcheck_any _ _ _ _ _).mono ?_
  rintro e w5 ⟨rfl, hb5⟩
  rw [Hcd.out]
  have hp5 := hp4.below (by omega) hb5
  have hl5 := hl4.below hz4' hb5
  have hB5 : Below N w w5 := hB4.trans (hb5.mono (by omega))
  have hz5 : G < w5.heap.size := by have := hb5.size; omega
  clear hp4 hl4 hB4 hz4' hb5
  have c0 := hp5.cell (i := 0) rfl
  have c1 := hp5.cell (i := 1) rfl
  have c2 := hp5.cell (i := 2) rfl
  have c3 := hp5.cell (i := 3) rfl
  go_wp2_with fail
  refine (pcheck_any _ s t c a).mono ?_
  rintro e w6 ⟨rfl, hb6⟩
  rw [Hcd.out]
  have hp6 := hp5.below (by omega) hb6
  have hl6 := hl5.below hz5 hb6
  have hB6 : Below N w w6 := hB5.trans (hb6.mono (by omega))
  have hz6 : G < w6.heap.size := by have := hb6.size; omega
  clear hp5 hl5 hB5 hz5 hb6 c0 c1 c2 c3
  cases hok : okP s t c a
  · obtain rfl : code = 2 := by rw [← Hcd.out, codeP, hok]; rfl
    have hl : layO s t c a = lc0 := by rw [layO, hok]; rfl
    rw [hl] at hl6
    have hE := fun W => eq_lay W 0 0 0 0 0 0 0 0 0 0 0 0 0 0 0 0 0 0 0 0 0 0 0 0 0 0 0 0
    rw [decide_eq_true rfl] at hE
    have HE := Lib.hid hE
    clear hE hl
    go_wp2_with (first
      | ((with_reducible refine at_load 25 ?_); refine load_lay rfl _ rfl G rfl hl6 ?_)
      | ((with_reducible refine at_eql 25 ?_); refine wpList_eqlS rfl 25 _ _ _ rfl (by kernel_rfl) rfl rfl (HE.out _) ?_))
    refine (works_any _).mono ?_
    rintro e w7 ⟨rfl, hb7⟩
    have hB7 : Below N w w7 := hB6.trans (hb7.mono (by omega))
    go_wp2_with fail
    go_ret
    exact ⟨rfl, by rw [hN]; exact hB7⟩
  obtain rfl : code = 0 := by rw [← Hcd.out, codeP, hok]; rfl
  obtain ⟨⟨hs1, hs2⟩, ⟨ht1, ht2⟩, ⟨hc1, hc2⟩, ha1, ha2⟩ := okP_iff.1 hok
  have hl : layO s t c a = lay s t c a := by rw [layO, hok]; rfl
  rw [hl] at hl6
  clear hl hok Hcd
  obtain ⟨sn, rfl⟩ : ∃ k : Nat, s = k := ⟨s.toNat, by omega⟩
  obtain ⟨tn, rfl⟩ : ∃ k : Nat, t = k := ⟨t.toNat, by omega⟩
  obtain ⟨cn, rfl⟩ : ∃ k : Nat, c = k := ⟨c.toNat, by omega⟩
  obtain ⟨an, rfl⟩ : ∃ k : Nat, a = k := ⟨a.toNat, by omega⟩
  obtain ⟨n, hn⟩ : ∃ n : Nat, (2 * (sn : Int) + 5) / 6 = (n : Int) := ⟨((2 * (sn : Int) + 5) / 6).toNat, by omega⟩
  have hl : lay (sn : Int) tn cn an = layN n tn cn an sn := by rw [lay, layN, idx, hn]
  rw [hl] at hl6
  have hn2 : n ≤ 67 := by omega
  have hn1 : 1 ≤ n := by omega
  have Hn := Lib.hid hn
  clear hl hn
  go_wp2_with ((with_reducible refine at_load 23 ?_); refine load_plan rfl _ rfl N rfl hp6 ?_)
  refine (parts_any _ sn tn cn an n (by omega) (by omega) (by omega) (by omega) (by omega) Hn.out).mono ?_
  rintro e w7 ⟨A, cap, rfl, hcap, hmx, hL7, hb7⟩
  have hp7 := hp6.below (by omega) hb7
  have hl7 := hl6.below hz6 hb7
  have hB7 : Below N w w7 := hB6.trans (hb7.mono (by omega))
  have hz7 : G < w7.heap.size := by have := hb7.size; omega
  clear hp6 hl6 hB6 hz6 hb7
  have hlen := partsL_length n tn cn an sn
  obtain ⟨m, hm⟩ : ∃ m, m = (partsL n tn cn an sn).length := ⟨_, rfl⟩
  have Hm := Lib.hid hm
  rw [← hm] at hcap hlen ⊢
  have hlenI : (m : Int) = 5 + (n : Int) + (tn : Int) + (cn : Int) + (an : Int) + 1 + ((n : Int) + (tn : Int) + 9) + (sn : Int) := by omega
  have hm2 : m ≤ 10000 := by omega
  have HL7 := Lib.hid hL7
  have hcap' : (m : Int) ≤ (cap : Int) := by omega
  clear hm hL7
  have Hlen := Lib.hid hlen
  have HlenI := Lib.hid hlenI
  clear hlen hlenI
  go_wp2_with fail
  have hPd : RowV w7.drew N 23 _ := hp7
  have hLd : RowV w7.drew G 25 _ := hl7
  have hBd : Below N w w7.drew := hB7.drew
  have hGs : G < w7.drew.heap.size := hz7
  have HLd : Hid (LiesV w7.drew w7.drew.heap.size A (nms (partsL n tn cn an sn))) := HL7.out.drew
  clear hp7 hl7 hB7 hz7 HL7
  obtain ⟨wd, hwd⟩ : ∃ wd, w7.drew = wd := ⟨_, rfl⟩
  rw [hwd] at hPd hLd hBd hGs HLd
  have hSc : Below wd.heap.size wd w7.drew := by rw [hwd]; exact Below.refl _ _
  refine wp_region_held_drew (S := fun W => Below wd.heap.size wd W) (by kernel_rfl) hSc (fun hHeld => ?_)
  rw [hwd] at hSc hHeld ⊢
  clear hwd
  have ltN : N < wd.heap.size := by omega
  have dS := hPd.cell (i := 0) rfl
  have dT := hPd.cell (i := 1) rfl
  have d8 := hLd.cell (i := 11) rfl
  have d9 := hLd.cell (i := 12) rfl
  have d10 := hLd.cell (i := 13) rfl
  have hlenI := HlenI.out
  refine wpAnyH_take (i := 0) (oi := ⟨_, _, _, _, _, _⟩) (v := ?_) rfl (by kernel_rfl) (by kernel_rfl) (by kernel_rfl) (fun _ _ _ h => h) (Or.inl ⟨by rfl, ?_⟩) (by assumption) ?_
  rotate_left
  · intro W hSW; go_simp; try with_reducible rfl
  try simp only [Act.put, List.setIfInBounds_toArray, List.set_cons_zero, List.set_cons_succ]
  refine wpAnyH_take (i := 1) (oi := ⟨_, _, _, _, _, _⟩) (v := ?_) rfl (by kernel_rfl) (by kernel_rfl) (by kernel_rfl) (fun _ _ _ h => h) (Or.inl ⟨by rfl, ?_⟩) (by assumption) ?_
  rotate_left
  · intro W hSW; refine exec_load_int (.tmp 36) ?_ G 11 ?_ (5 + (n : Int) + (tn : Int) + (cn : Int) + (an : Int) + 1 + ((n : Int) + (tn : Int) + 9) + (sn : Int)) ((hSW.cell (p := ⟨G, 11, none⟩) hGs).trans d8) <;> rfl
  try simp only [Act.put, List.setIfInBounds_toArray, List.set_cons_zero, List.set_cons_succ]
  refine wpAnyH_take (i := 2) (oi := ⟨_, _, _, _, _, _⟩) (v := ?_) rfl (by kernel_rfl) (by kernel_rfl) (by kernel_rfl) (fun _ _ _ h => h) (Or.inl ⟨by rfl, ?_⟩) (by assumption) ?_
  rotate_left
  · intro W hSW; go_simp; try with_reducible rfl
  try simp only [Act.put, List.setIfInBounds_toArray, List.set_cons_zero, List.set_cons_succ]
  refine wpAnyH_take (i := 3) (oi := ⟨_, _, _, _, _, _⟩) (v := ?_) rfl (by kernel_rfl) (by kernel_rfl) (by kernel_rfl) (fun _ _ _ h => h) (Or.inl ⟨by rfl, ?_⟩) (by assumption) ?_
  rotate_left
  · intro W hSW; go_simp; try with_reducible rfl
  try simp only [Act.put, List.setIfInBounds_toArray, List.set_cons_zero, List.set_cons_succ]
  refine wpAnyH_take (i := 4) (oi := ⟨_, _, _, _, _, _⟩) (v := .bool false) rfl (by kernel_rfl) (by kernel_rfl) (by kernel_rfl) (fun _ _ _ h => h) (Or.inl ⟨by rfl, ?_⟩) (by assumption) ?_
  · intro W hSW; go_simp; first | done | omega | (simp; done) | (simp; omega)
  try simp only [Act.put, List.setIfInBounds_toArray, List.set_cons_zero, List.set_cons_succ]
  refine wpAnyH_take (i := 5) (oi := ⟨_, _, _, _, _, _⟩) (v := ?_) rfl (by kernel_rfl) (by kernel_rfl) (by kernel_rfl) (fun _ _ _ h => h) (Or.inl ⟨by rfl, ?_⟩) (by assumption) ?_
  rotate_left
  · intro W hSW; go_simp; try with_reducible rfl
  try simp only [Act.put, List.setIfInBounds_toArray, List.set_cons_zero, List.set_cons_succ]
  refine wpAnyH_take (i := 6) (oi := ⟨_, _, _, _, _, _⟩) (v := ?_) rfl (by kernel_rfl) (by kernel_rfl) (by kernel_rfl) (fun _ _ _ h => h) (Or.inl ⟨by rfl, ?_⟩) (by assumption) ?_
  rotate_left
  · intro W hSW; go_simp; try with_reducible rfl
  try simp only [Act.put, List.setIfInBounds_toArray, List.set_cons_zero, List.set_cons_succ]
  refine wpAnyH_take (i := 7) (oi := ⟨_, _, _, _, _, _⟩) (v := ?_) rfl (by kernel_rfl) (by kernel_rfl) (by kernel_rfl) (fun _ _ _ h => h) (Or.inl ⟨by rfl, ?_⟩) (by assumption) ?_
  rotate_left
  · intro W hSW; refine exec_load_mid 23 (.tmp 42) ?_ G 0 ?_ (pc sn tn cn an) _ (fun i v hv => by rw [Nat.zero_add]; exact (hLd.below hGs hSW).cell (pre_plan hv)) Try.underlying23 rfl Try.sizeP <;> rfl
  try simp only [Act.put, List.setIfInBounds_toArray, List.set_cons_zero, List.set_cons_succ]
  refine wpAnyH_take (i := 8) (oi := ⟨_, _, _, _, _, _⟩) (v := ?_) rfl (by kernel_rfl) (by kernel_rfl) (by kernel_rfl) (fun _ _ _ h => h) (Or.inl ⟨by rfl, ?_⟩) (by assumption) ?_
  rotate_left
  · intro W hSW; refine exec_load_row 23 (.tmp 2) ?_ N ?_ _ (hPd.below ltN hSW) Try.underlying23 rfl Try.sizeP <;> rfl
  try simp only [Act.put, List.setIfInBounds_toArray, List.set_cons_zero, List.set_cons_succ]
  refine wpAnyH_take (i := 9) (oi := ⟨_, _, _, _, _, _⟩) (v := .bool false) rfl (by kernel_rfl) (by kernel_rfl) (by kernel_rfl) (fun _ _ _ h => h) (Or.inl ⟨by rfl, ?_⟩) (by assumption) ?_
  · intro W hSW; refine (exec_neqS 23 (.tmp 43) (.tmp 44) 23 ?_ (by kernel_rfl) ?_ ?_ (eq_plan W sn tn cn an sn tn cn an)).trans ?_ <;> first | rfl | (rw [decide_eq_true rfl]; rfl)
  try simp only [Act.put, List.setIfInBounds_toArray, List.set_cons_zero, List.set_cons_succ]
  refine wpAnyH_take (i := 10) (oi := ⟨_, _, _, _, _, _⟩) (v := ?_) rfl (by kernel_rfl) (by kernel_rfl) (by kernel_rfl) (fun _ _ _ h => h) (Or.inl ⟨by rfl, ?_⟩) (by assumption) ?_
  rotate_left
  · intro W hSW; go_simp; try with_reducible rfl
  try simp only [Act.put, List.setIfInBounds_toArray, List.set_cons_zero, List.set_cons_succ]
  refine wpAnyH_take (i := 11) (oi := ⟨_, _, _, _, _, _⟩) (v := ?_) rfl (by kernel_rfl) (by kernel_rfl) (by kernel_rfl) (fun _ _ _ h => h) (Or.inl ⟨by rfl, ?_⟩) (by assumption) ?_
  rotate_left
  · intro W hSW; go_simp; try with_reducible rfl
  try simp only [Act.put, List.setIfInBounds_toArray, List.set_cons_zero, List.set_cons_succ]
  refine wpAnyH_take (i := 12) (oi := ⟨_, _, _, _, _, _⟩) (v := ?_) rfl (by kernel_rfl) (by kernel_rfl) (by kernel_rfl) (fun _ _ _ h => h) (Or.inl ⟨by rfl, ?_⟩) (by assumption) ?_
  rotate_left
  · intro W hSW; go_simp; try with_reducible rfl
  try simp only [Act.put, List.setIfInBounds_toArray, List.set_cons_zero, List.set_cons_succ]
  refine wpAnyH_take (i := 13) (oi := ⟨_, _, _, _, _, _⟩) (v := ?_) rfl (by kernel_rfl) (by kernel_rfl) (by kernel_rfl) (fun _ _ _ h => h) (Or.inl ⟨by rfl, ?_⟩) (by assumption) ?_
  rotate_left
  · intro W hSW; refine exec_load_int (.tmp 48) ?_ G 12 ?_ ((n : Int) * 6) ((hSW.cell (p := ⟨G, 12, none⟩) hGs).trans d9) <;> rfl
  try simp only [Act.put, List.setIfInBounds_toArray, List.set_cons_zero, List.set_cons_succ]
  refine wpAnyH_take (i := 14) (oi := ⟨_, _, _, _, _, _⟩) (v := ?_) rfl (by kernel_rfl) (by kernel_rfl) (by kernel_rfl) (fun _ _ _ h => h) (Or.inl ⟨by rfl, ?_⟩) (by assumption) ?_
  rotate_left
  · intro W hSW; refine exec_load_row 23 (.tmp 2) ?_ N ?_ _ (hPd.below ltN hSW) Try.underlying23 rfl Try.sizeP <;> rfl
  try simp only [Act.put, List.setIfInBounds_toArray, List.set_cons_zero, List.set_cons_succ]
  refine wpAnyH_ready (rs := [15]) (by kernel_rfl) (by simp) ?_
  refine AllReadyH.cons (o := ⟨_, _, _, _, _, _⟩) rfl (fun K hK => ?_) AllReadyH.nil
  go_simp
  refine (indexN_any _ n tn cn an sn (by omega) (by omega) Hn.out).mono ?_
  rintro e wx1 ⟨rfl, hb⟩
  try simp only []
  have hS1 := hSc.trans (hb.mono hSc.size)
  refine hK.out _ _ hS1 (fun hHeld => ?_)
  clear hK K hb hSc
  have hSc := hS1
  clear hS1
  try simp only [Act.put, List.setIfInBounds_toArray, List.set_cons_zero, List.set_cons_succ]
  refine wpAnyH_take (i := 16) (oi := ⟨_, _, _, _, _, _⟩) (v := .int .i64 ((n : Int) * 6)) rfl (by kernel_rfl) (by kernel_rfl) (by kernel_rfl) (fun _ _ _ h => h) (Or.inl ⟨by rfl, ?_⟩) (by assumption) ?_
  · intro W hSW; go_simp; first | done | exact IntWalk.i64_in _ (by omega) | (rw [IntWalk.i64_in _ (by omega)]; omega)
  try simp only [Act.put, List.setIfInBounds_toArray, List.set_cons_zero, List.set_cons_succ]
  refine wpAnyH_take (i := 17) (oi := ⟨_, _, _, _, _, _⟩) (v := .bool false) rfl (by kernel_rfl) (by kernel_rfl) (by kernel_rfl) (fun _ _ _ h => h) (Or.inl ⟨by rfl, ?_⟩) (by assumption) ?_
  · intro W hSW; go_simp; first | done | omega | (simp; done) | (simp; omega)
  try simp only [Act.put, List.setIfInBounds_toArray, List.set_cons_zero, List.set_cons_succ]
  refine wpAnyH_take (i := 18) (oi := ⟨_, _, _, _, _, _⟩) (v := ?_) rfl (by kernel_rfl) (by kernel_rfl) (by kernel_rfl) (fun _ _ _ h => h) (Or.inl ⟨by rfl, ?_⟩) (by assumption) ?_
  rotate_left
  · intro W hSW; go_simp; try with_reducible rfl
  try simp only [Act.put, List.setIfInBounds_toArray, List.set_cons_zero, List.set_cons_succ]
  refine wpAnyH_take (i := 19) (oi := ⟨_, _, _, _, _, _⟩) (v := ?_) rfl (by kernel_rfl) (by kernel_rfl) (by kernel_rfl) (fun _ _ _ h => h) (Or.inl ⟨by rfl, ?_⟩) (by assumption) ?_
  rotate_left
  · intro W hSW; go_simp; try with_reducible rfl
  try simp only [Act.put, List.setIfInBounds_toArray, List.set_cons_zero, List.set_cons_succ]
  refine wpAnyH_take (i := 20) (oi := ⟨_, _, _, _, _, _⟩) (v := ?_) rfl (by kernel_rfl) (by kernel_rfl) (by kernel_rfl) (fun _ _ _ h => h) (Or.inl ⟨by rfl, ?_⟩) (by assumption) ?_
  rotate_left
  · intro W hSW; go_simp; try with_reducible rfl
  try simp only [Act.put, List.setIfInBounds_toArray, List.set_cons_zero, List.set_cons_succ]
  refine wpAnyH_take (i := 21) (oi := ⟨_, _, _, _, _, _⟩) (v := ?_) rfl (by kernel_rfl) (by kernel_rfl) (by kernel_rfl) (fun _ _ _ h => h) (Or.inl ⟨by rfl, ?_⟩) (by assumption) ?_
  rotate_left
  · intro W hSW; refine exec_load_int (.tmp 56) ?_ G 13 ?_ ((n : Int) + (tn : Int) + 9) ((hSW.cell (p := ⟨G, 13, none⟩) hGs).trans d10) <;> rfl
  try simp only [Act.put, List.setIfInBounds_toArray, List.set_cons_zero, List.set_cons_succ]
  refine wpAnyH_take (i := 22) (oi := ⟨_, _, _, _, _, _⟩) (v := ?_) rfl (by kernel_rfl) (by kernel_rfl) (by kernel_rfl) (fun _ _ _ h => h) (Or.inl ⟨by rfl, ?_⟩) (by assumption) ?_
  rotate_left
  · intro W hSW; refine exec_load_row 23 (.tmp 2) ?_ N ?_ _ (hPd.below ltN hSW) Try.underlying23 rfl Try.sizeP <;> rfl
  try simp only [Act.put, List.setIfInBounds_toArray, List.set_cons_zero, List.set_cons_succ]
  refine wpAnyH_take (i := 25) (oi := ⟨_, _, _, _, _, _⟩) (v := ?_) rfl (by kernel_rfl) (by kernel_rfl) (by kernel_rfl) (fun _ _ _ h => h) (Or.inl ⟨by rfl, ?_⟩) (by assumption) ?_
  rotate_left
  · intro W hSW; go_simp; try with_reducible rfl
  try simp only [Act.put, List.setIfInBounds_toArray, List.set_cons_zero, List.set_cons_succ]
  refine wpAnyH_take (i := 26) (oi := ⟨_, _, _, _, _, _⟩) (v := ?_) rfl (by kernel_rfl) (by kernel_rfl) (by kernel_rfl) (fun _ _ _ h => h) (Or.inl ⟨by rfl, ?_⟩) (by assumption) ?_
  rotate_left
  · intro W hSW; refine exec_load_int (.tmp 61) ?_ N 1 ?_ ((tn : Int)) ((hSW.cell (p := ⟨N, 1, none⟩) ltN).trans dT) <;> rfl
  try simp only [Act.put, List.setIfInBounds_toArray, List.set_cons_zero, List.set_cons_succ]
  refine wpAnyH_ready (rs := [23]) (by kernel_rfl) (by simp) ?_
  refine AllReadyH.cons (o := ⟨_, _, _, _, _, _⟩) rfl (fun K hK => ?_) AllReadyH.nil
  go_simp
  refine (indexN_any _ n tn cn an sn (by omega) (by omega) Hn.out).mono ?_
  rintro e wx2 ⟨rfl, hb⟩
  try simp only []
  have hS2 := hSc.trans (hb.mono hSc.size)
  refine hK.out _ _ hS2 (fun hHeld => ?_)
  clear hK K hb hSc
  have hSc := hS2
  clear hS2
  try simp only [Act.put, List.setIfInBounds_toArray, List.set_cons_zero, List.set_cons_succ]
  refine wpAnyH_take (i := 24) (oi := ⟨_, _, _, _, _, _⟩) (v := .int .i64 (9 + (n : Int))) rfl (by kernel_rfl) (by kernel_rfl) (by kernel_rfl) (fun _ _ _ h => h) (Or.inl ⟨by rfl, ?_⟩) (by assumption) ?_
  · intro W hSW; go_simp; first | done | exact IntWalk.i64_in _ (by omega) | (rw [IntWalk.i64_in _ (by omega)]; omega)
  try simp only [Act.put, List.setIfInBounds_toArray, List.set_cons_zero, List.set_cons_succ]
  refine wpAnyH_take (i := 27) (oi := ⟨_, _, _, _, _, _⟩) (v := .int .i64 (9 + (n : Int) + (tn : Int))) rfl (by kernel_rfl) (by kernel_rfl) (by kernel_rfl) (fun _ _ _ h => h) (Or.inl ⟨by rfl, ?_⟩) (by assumption) ?_
  · intro W hSW; go_simp; first | done | exact IntWalk.i64_in _ (by omega) | (rw [IntWalk.i64_in _ (by omega)]; omega)
  try simp only [Act.put, List.setIfInBounds_toArray, List.set_cons_zero, List.set_cons_succ]
  refine wpAnyH_take (i := 28) (oi := ⟨_, _, _, _, _, _⟩) (v := .bool false) rfl (by kernel_rfl) (by kernel_rfl) (by kernel_rfl) (fun _ _ _ h => h) (Or.inl ⟨by rfl, ?_⟩) (by assumption) ?_
  · intro W hSW; go_simp; first | done | omega | (simp; done) | (simp; omega)
  try simp only [Act.put, List.setIfInBounds_toArray, List.set_cons_zero, List.set_cons_succ]
  refine wpAnyH_take (i := 29) (oi := ⟨_, _, _, _, _, _⟩) (v := ?_) rfl (by kernel_rfl) (by kernel_rfl) (by kernel_rfl) (fun _ _ _ h => h) (Or.inl ⟨by rfl, ?_⟩) (by assumption) ?_
  rotate_left
  · intro W hSW; go_simp; try with_reducible rfl
  try simp only [Act.put, List.setIfInBounds_toArray, List.set_cons_zero, List.set_cons_succ]
  refine wpAnyH_take (i := 30) (oi := ⟨_, _, _, _, _, _⟩) (v := ?_) rfl (by kernel_rfl) (by kernel_rfl) (by kernel_rfl) (fun _ _ _ h => h) (Or.inl ⟨by rfl, ?_⟩) (by assumption) ?_
  rotate_left
  · intro W hSW; go_simp; try with_reducible rfl
  try simp only [Act.put, List.setIfInBounds_toArray, List.set_cons_zero, List.set_cons_succ]
  refine wpAnyH_take (i := 31) (oi := ⟨_, _, _, _, _, _⟩) (v := ?_) rfl (by kernel_rfl) (by kernel_rfl) (by kernel_rfl) (fun _ _ _ h => h) (Or.inl ⟨by rfl, ?_⟩) (by assumption) ?_
  rotate_left
  · intro W hSW; refine exec_load_row 25 (.tmp 5) ?_ G ?_ _ (hLd.below hGs hSW) Try.underlying25 rfl Try.sizeL <;> rfl
  try simp only [Act.put, List.setIfInBounds_toArray, List.set_cons_zero, List.set_cons_succ]
  refine wpAnyH_take (i := 33) (oi := ⟨_, _, _, _, _, _⟩) (v := ?_) rfl (by kernel_rfl) (by kernel_rfl) (by kernel_rfl) (fun _ _ _ h => h) (Or.inl ⟨by rfl, ?_⟩) (by assumption) ?_
  rotate_left
  · intro W hSW; go_simp; try with_reducible rfl
  try simp only [Act.put, List.setIfInBounds_toArray, List.set_cons_zero, List.set_cons_succ]
  refine wpAnyH_take (i := 34) (oi := ⟨_, _, _, _, _, _⟩) (v := ?_) rfl (by kernel_rfl) (by kernel_rfl) (by kernel_rfl) (fun _ _ _ h => h) (Or.inl ⟨by rfl, ?_⟩) (by assumption) ?_
  rotate_left
  · intro W hSW; refine exec_load_int (.tmp 69) ?_ N 0 ?_ ((sn : Int)) ((hSW.cell (p := ⟨N, 0, none⟩) ltN).trans dS) <;> rfl
  try simp only [Act.put, List.setIfInBounds_toArray, List.set_cons_zero, List.set_cons_succ]
  refine wpAnyH_take (i := 35) (oi := ⟨_, _, _, _, _, _⟩) (v := .int .i64 ((sn : Int) + 1)) rfl (by kernel_rfl) (by kernel_rfl) (by kernel_rfl) (fun _ _ _ h => h) (Or.inl ⟨by rfl, ?_⟩) (by assumption) ?_
  · intro W hSW; go_simp; first | done | exact IntWalk.i64_in _ (by omega) | (rw [IntWalk.i64_in _ (by omega)]; omega)
  try simp only [Act.put, List.setIfInBounds_toArray, List.set_cons_zero, List.set_cons_succ]
  refine wpAnyH_ready (rs := [32]) (by kernel_rfl) (by simp) ?_
  refine AllReadyH.cons (o := ⟨_, _, _, _, _, _⟩) rfl (fun K hK => ?_) AllReadyH.nil
  go_simp
  refine (boundN_any _ n tn cn an sn (by omega) (by omega)).mono ?_
  rintro e wx3 ⟨rfl, hb⟩
  try simp only []
  have hS3 := hSc.trans (hb.mono hSc.size)
  refine hK.out _ _ hS3 (fun hHeld => ?_)
  clear hK K hb hSc
  have hSc := hS3
  clear hS3
  try simp only [Act.put, List.setIfInBounds_toArray, List.set_cons_zero, List.set_cons_succ]
  refine wpAnyH_take (i := 36) (oi := ⟨_, _, _, _, _, _⟩) (v := .bool false) rfl (by kernel_rfl) (by kernel_rfl) (by kernel_rfl) (fun _ _ _ h => h) (Or.inl ⟨by rfl, ?_⟩) (by assumption) ?_
  · intro W hSW; go_simp; first | done | omega | (simp; done) | (simp; omega)
  try simp only [Act.put, List.setIfInBounds_toArray, List.set_cons_zero, List.set_cons_succ]
  refine wpAnyH_take (i := 37) (oi := ⟨_, _, _, _, _, _⟩) (v := ?_) rfl (by kernel_rfl) (by kernel_rfl) (by kernel_rfl) (fun _ _ _ h => h) (Or.inl ⟨by rfl, ?_⟩) (by assumption) ?_
  rotate_left
  · intro W hSW; go_simp; try with_reducible rfl
  try simp only [Act.put, List.setIfInBounds_toArray, List.set_cons_zero, List.set_cons_succ]
  refine wpAnyH_done (by kernel_rfl) ?_ _
  have hp8 := hPd.below ltN hSc
  have hl8 := hLd.below hGs hSc
  have HL8 : Hid (LiesV wx3 wd.heap.size A (nms (partsL n tn cn an sn))) := HLd.out.below hSc
  have hB8 : Below N w wx3 := hBd.trans (hSc.mono (by omega))
  have hz8 : G < wx3.heap.size := by have := hSc.size; omega
  have hz8' : wd.heap.size ≤ wx3.heap.size := hSc.size
  clear hPd hLd HLd hBd hSc dS dT d8 d9 d10 hGs ltN hlenI
  generalize hBB : wd.heap.size = B at *
  clear hBB
  obtain ⟨w8, hw8⟩ : ∃ w8, w8 = wx3 := ⟨_, rfl⟩
  subst hw8
  by_cases hlow : at_ < 0
  · have hlow' := hlow
    have hpn : pN n tn cn an sn at_ = .no := pN_low hlow
    go_wp2_with fail
    have hLd : RowV w8.drew G 25 _ := hl8
    have hBd : Below N w w8.drew := hB8.drew
    have hGs : G < w8.drew.heap.size := hz8
    have HLd : Hid (LiesV w8.drew B A (nms (partsL n tn cn an sn))) := HL8.out.drew
    have hBs : B ≤ w8.drew.heap.size := hz8'
    clear hp8 hl8 hB8 hz8 HL8 hz8'
    obtain ⟨we, hwe⟩ : ∃ wd, w8.drew = wd := ⟨_, rfl⟩
    rw [hwe] at hLd hBd hGs HLd hBs
    have hSc : Below we.heap.size we w8.drew := by rw [hwe]; exact Below.refl _ _
    refine wp_region_held_drew (S := fun W => Below we.heap.size we W) (by kernel_rfl) hSc (fun hHeld => ?_)
    rw [hwe] at hSc hHeld ⊢
    clear hwe
    have d1 := hLd.cell (i := 4) rfl
    have d2 := hLd.cell (i := 5) rfl
    have d3 := hLd.cell (i := 6) rfl
    have d4 := hLd.cell (i := 7) rfl
    have d5 := hLd.cell (i := 8) rfl
    have d6 := hLd.cell (i := 9) rfl
    have d7 := hLd.cell (i := 10) rfl
    refine wpAnyH_take (i := 0) (oi := ⟨_, _, _, _, _, _⟩) (v := ?_) rfl (by kernel_rfl) (by kernel_rfl) (by kernel_rfl) (fun _ _ _ h => h) (Or.inl ⟨by rfl, ?_⟩) (by assumption) ?_
    rotate_left
    · intro W hSW; go_simp; try with_reducible rfl
    try simp only [Act.put, List.setIfInBounds_toArray, List.set_cons_zero, List.set_cons_succ]
    refine wpAnyH_take (i := 1) (oi := ⟨_, _, _, _, _, _⟩) (v := ?_) rfl (by kernel_rfl) (by kernel_rfl) (by kernel_rfl) (fun _ _ _ h => h) (Or.inl ⟨by rfl, ?_⟩) (by assumption) ?_
    rotate_left
    · intro W hSW; refine exec_load_int (.tmp 86) ?_ G 4 ?_ (5) ((hSW.cell (p := ⟨G, 4, none⟩) hGs).trans d1) <;> rfl
    try simp only [Act.put, List.setIfInBounds_toArray, List.set_cons_zero, List.set_cons_succ]
    refine wpAnyH_take (i := 2) (oi := ⟨_, _, _, _, _, _⟩) (v := ?_) rfl (by kernel_rfl) (by kernel_rfl) (by kernel_rfl) (fun _ _ _ h => h) (Or.inl ⟨by rfl, ?_⟩) (by assumption) ?_
    rotate_left
    · intro W hSW; go_simp; try with_reducible rfl
    try simp only [Act.put, List.setIfInBounds_toArray, List.set_cons_zero, List.set_cons_succ]
    refine wpAnyH_ready (rs := [3]) (by kernel_rfl) (by simp) ?_
    refine AllReadyH.cons (o := ⟨_, _, _, _, _, _⟩) rfl (fun K hK => ?_) AllReadyH.nil
    go_simp
    refine (first_index _ B A m cap n tn cn an sn Hm.out (HLd.out.keep fun p hp => hSc.cell (Nat.lt_of_lt_of_le hp hBs)) hcap hm2 hn1 (by omega) (by omega) (by omega) (by omega)).mono ?_
    rintro e wx1 ⟨rfl, hb⟩
    try simp only []
    have hS1 := hSc.trans (hb.mono hSc.size)
    refine hK.out _ _ hS1 (fun hHeld => ?_)
    clear hK K hb hSc
    have hSc := hS1
    clear hS1
    try simp only [Act.put, List.setIfInBounds_toArray, List.set_cons_zero, List.set_cons_succ]
    refine wpAnyH_take (i := 4) (oi := ⟨_, _, _, _, _, _⟩) (v := .bool false) rfl (by kernel_rfl) (by kernel_rfl) (by kernel_rfl) (fun _ _ _ h => h) (Or.inl ⟨by rfl, ?_⟩) (by assumption) ?_
    · intro W hSW; go_simp; first | done | omega | (simp; done) | (simp; omega)
    try simp only [Act.put, List.setIfInBounds_toArray, List.set_cons_zero, List.set_cons_succ]
    refine wpAnyH_take (i := 5) (oi := ⟨_, _, _, _, _, _⟩) (v := ?_) rfl (by kernel_rfl) (by kernel_rfl) (by kernel_rfl) (fun _ _ _ h => h) (Or.inl ⟨by rfl, ?_⟩) (by assumption) ?_
    rotate_left
    · intro W hSW; go_simp; try with_reducible rfl
    try simp only [Act.put, List.setIfInBounds_toArray, List.set_cons_zero, List.set_cons_succ]
    refine wpAnyH_take (i := 6) (oi := ⟨_, _, _, _, _, _⟩) (v := ?_) rfl (by kernel_rfl) (by kernel_rfl) (by kernel_rfl) (fun _ _ _ h => h) (Or.inl ⟨by rfl, ?_⟩) (by assumption) ?_
    rotate_left
    · intro W hSW; go_simp; try with_reducible rfl
    try simp only [Act.put, List.setIfInBounds_toArray, List.set_cons_zero, List.set_cons_succ]
    refine wpAnyH_take (i := 7) (oi := ⟨_, _, _, _, _, _⟩) (v := ?_) rfl (by kernel_rfl) (by kernel_rfl) (by kernel_rfl) (fun _ _ _ h => h) (Or.inl ⟨by rfl, ?_⟩) (by assumption) ?_
    rotate_left
    · intro W hSW; refine exec_load_int (.tmp 92) ?_ G 5 ?_ (5 + (n : Int)) ((hSW.cell (p := ⟨G, 5, none⟩) hGs).trans d2) <;> rfl
    try simp only [Act.put, List.setIfInBounds_toArray, List.set_cons_zero, List.set_cons_succ]
    refine wpAnyH_take (i := 8) (oi := ⟨_, _, _, _, _, _⟩) (v := ?_) rfl (by kernel_rfl) (by kernel_rfl) (by kernel_rfl) (fun _ _ _ h => h) (Or.inl ⟨by rfl, ?_⟩) (by assumption) ?_
    rotate_left
    · intro W hSW; go_simp; try with_reducible rfl
    try simp only [Act.put, List.setIfInBounds_toArray, List.set_cons_zero, List.set_cons_succ]
    refine wpAnyH_ready (rs := [9]) (by kernel_rfl) (by simp) ?_
    refine AllReadyH.cons (o := ⟨_, _, _, _, _, _⟩) rfl (fun K hK => ?_) AllReadyH.nil
    go_simp
    refine (first_text _ B A m cap n tn cn an sn Hm.out (HLd.out.keep fun p hp => hSc.cell (Nat.lt_of_lt_of_le hp hBs)) hcap hm2 hn1 (by omega) (by omega) (by omega) (by omega)).mono ?_
    rintro e wx2 ⟨rfl, hb⟩
    try simp only []
    have hS2 := hSc.trans (hb.mono hSc.size)
    refine hK.out _ _ hS2 (fun hHeld => ?_)
    clear hK K hb hSc
    have hSc := hS2
    clear hS2
    try simp only [Act.put, List.setIfInBounds_toArray, List.set_cons_zero, List.set_cons_succ]
    refine wpAnyH_take (i := 10) (oi := ⟨_, _, _, _, _, _⟩) (v := .bool false) rfl (by kernel_rfl) (by kernel_rfl) (by kernel_rfl) (fun _ _ _ h => h) (Or.inl ⟨by rfl, ?_⟩) (by assumption) ?_
    · intro W hSW; go_simp; first | done | omega | (simp; done) | (simp; omega)
    try simp only [Act.put, List.setIfInBounds_toArray, List.set_cons_zero, List.set_cons_succ]
    refine wpAnyH_take (i := 11) (oi := ⟨_, _, _, _, _, _⟩) (v := ?_) rfl (by kernel_rfl) (by kernel_rfl) (by kernel_rfl) (fun _ _ _ h => h) (Or.inl ⟨by rfl, ?_⟩) (by assumption) ?_
    rotate_left
    · intro W hSW; go_simp; try with_reducible rfl
    try simp only [Act.put, List.setIfInBounds_toArray, List.set_cons_zero, List.set_cons_succ]
    refine wpAnyH_take (i := 12) (oi := ⟨_, _, _, _, _, _⟩) (v := ?_) rfl (by kernel_rfl) (by kernel_rfl) (by kernel_rfl) (fun _ _ _ h => h) (Or.inl ⟨by rfl, ?_⟩) (by assumption) ?_
    rotate_left
    · intro W hSW; go_simp; try with_reducible rfl
    try simp only [Act.put, List.setIfInBounds_toArray, List.set_cons_zero, List.set_cons_succ]
    refine wpAnyH_take (i := 13) (oi := ⟨_, _, _, _, _, _⟩) (v := ?_) rfl (by kernel_rfl) (by kernel_rfl) (by kernel_rfl) (fun _ _ _ h => h) (Or.inl ⟨by rfl, ?_⟩) (by assumption) ?_
    rotate_left
    · intro W hSW; go_simp; try with_reducible rfl
    try simp only [Act.put, List.setIfInBounds_toArray, List.set_cons_zero, List.set_cons_succ]
    refine wpAnyH_take (i := 14) (oi := ⟨_, _, _, _, _, _⟩) (v := ?_) rfl (by kernel_rfl) (by kernel_rfl) (by kernel_rfl) (fun _ _ _ h => h) (Or.inl ⟨by rfl, ?_⟩) (by assumption) ?_
    rotate_left
    · intro W hSW; refine exec_load_int (.tmp 99) ?_ G 6 ?_ (5 + (n : Int) + (tn : Int)) ((hSW.cell (p := ⟨G, 6, none⟩) hGs).trans d3) <;> rfl
    try simp only [Act.put, List.setIfInBounds_toArray, List.set_cons_zero, List.set_cons_succ]
    refine wpAnyH_take (i := 15) (oi := ⟨_, _, _, _, _, _⟩) (v := ?_) rfl (by kernel_rfl) (by kernel_rfl) (by kernel_rfl) (fun _ _ _ h => h) (Or.inl ⟨by rfl, ?_⟩) (by assumption) ?_
    rotate_left
    · intro W hSW; go_simp; try with_reducible rfl
    try simp only [Act.put, List.setIfInBounds_toArray, List.set_cons_zero, List.set_cons_succ]
    refine wpAnyH_ready (rs := [16]) (by kernel_rfl) (by simp) ?_
    refine AllReadyH.cons (o := ⟨_, _, _, _, _, _⟩) rfl (fun K hK => ?_) AllReadyH.nil
    go_simp
    refine (first_clip _ B A m cap n tn cn an sn Hm.out (HLd.out.keep fun p hp => hSc.cell (Nat.lt_of_lt_of_le hp hBs)) hcap hm2 hn1 (by omega) (by omega) (by omega) (by omega)).mono ?_
    rintro e wx3 ⟨rfl, hb⟩
    try simp only []
    have hS3 := hSc.trans (hb.mono hSc.size)
    refine hK.out _ _ hS3 (fun hHeld => ?_)
    clear hK K hb hSc
    have hSc := hS3
    clear hS3
    try simp only [Act.put, List.setIfInBounds_toArray, List.set_cons_zero, List.set_cons_succ]
    refine wpAnyH_take (i := 17) (oi := ⟨_, _, _, _, _, _⟩) (v := .bool false) rfl (by kernel_rfl) (by kernel_rfl) (by kernel_rfl) (fun _ _ _ h => h) (Or.inl ⟨by rfl, ?_⟩) (by assumption) ?_
    · intro W hSW; go_simp; first | done | omega | (simp; done) | (simp; omega)
    try simp only [Act.put, List.setIfInBounds_toArray, List.set_cons_zero, List.set_cons_succ]
    refine wpAnyH_take (i := 18) (oi := ⟨_, _, _, _, _, _⟩) (v := ?_) rfl (by kernel_rfl) (by kernel_rfl) (by kernel_rfl) (fun _ _ _ h => h) (Or.inl ⟨by rfl, ?_⟩) (by assumption) ?_
    rotate_left
    · intro W hSW; go_simp; try with_reducible rfl
    try simp only [Act.put, List.setIfInBounds_toArray, List.set_cons_zero, List.set_cons_succ]
    refine wpAnyH_take (i := 19) (oi := ⟨_, _, _, _, _, _⟩) (v := ?_) rfl (by kernel_rfl) (by kernel_rfl) (by kernel_rfl) (fun _ _ _ h => h) (Or.inl ⟨by rfl, ?_⟩) (by assumption) ?_
    rotate_left
    · intro W hSW; go_simp; try with_reducible rfl
    try simp only [Act.put, List.setIfInBounds_toArray, List.set_cons_zero, List.set_cons_succ]
    refine wpAnyH_take (i := 20) (oi := ⟨_, _, _, _, _, _⟩) (v := ?_) rfl (by kernel_rfl) (by kernel_rfl) (by kernel_rfl) (fun _ _ _ h => h) (Or.inl ⟨by rfl, ?_⟩) (by assumption) ?_
    rotate_left
    · intro W hSW; go_simp; try with_reducible rfl
    try simp only [Act.put, List.setIfInBounds_toArray, List.set_cons_zero, List.set_cons_succ]
    refine wpAnyH_take (i := 21) (oi := ⟨_, _, _, _, _, _⟩) (v := ?_) rfl (by kernel_rfl) (by kernel_rfl) (by kernel_rfl) (fun _ _ _ h => h) (Or.inl ⟨by rfl, ?_⟩) (by assumption) ?_
    rotate_left
    · intro W hSW; refine exec_load_int (.tmp 106) ?_ G 7 ?_ (5 + (n : Int) + (tn : Int) + (cn : Int)) ((hSW.cell (p := ⟨G, 7, none⟩) hGs).trans d4) <;> rfl
    try simp only [Act.put, List.setIfInBounds_toArray, List.set_cons_zero, List.set_cons_succ]
    refine wpAnyH_take (i := 22) (oi := ⟨_, _, _, _, _, _⟩) (v := ?_) rfl (by kernel_rfl) (by kernel_rfl) (by kernel_rfl) (fun _ _ _ h => h) (Or.inl ⟨by rfl, ?_⟩) (by assumption) ?_
    rotate_left
    · intro W hSW; go_simp; try with_reducible rfl
    try simp only [Act.put, List.setIfInBounds_toArray, List.set_cons_zero, List.set_cons_succ]
    refine wpAnyH_ready (rs := [23]) (by kernel_rfl) (by simp) ?_
    refine AllReadyH.cons (o := ⟨_, _, _, _, _, _⟩) rfl (fun K hK => ?_) AllReadyH.nil
    go_simp
    refine (first_audit _ B A m cap n tn cn an sn Hm.out (HLd.out.keep fun p hp => hSc.cell (Nat.lt_of_lt_of_le hp hBs)) hcap hm2 hn1 (by omega) (by omega) (by omega) (by omega)).mono ?_
    rintro e wx4 ⟨rfl, hb⟩
    try simp only []
    have hS4 := hSc.trans (hb.mono hSc.size)
    refine hK.out _ _ hS4 (fun hHeld => ?_)
    clear hK K hb hSc
    have hSc := hS4
    clear hS4
    try simp only [Act.put, List.setIfInBounds_toArray, List.set_cons_zero, List.set_cons_succ]
    refine wpAnyH_take (i := 24) (oi := ⟨_, _, _, _, _, _⟩) (v := .bool false) rfl (by kernel_rfl) (by kernel_rfl) (by kernel_rfl) (fun _ _ _ h => h) (Or.inl ⟨by rfl, ?_⟩) (by assumption) ?_
    · intro W hSW; go_simp; first | done | omega | (simp; done) | (simp; omega)
    try simp only [Act.put, List.setIfInBounds_toArray, List.set_cons_zero, List.set_cons_succ]
    refine wpAnyH_take (i := 25) (oi := ⟨_, _, _, _, _, _⟩) (v := ?_) rfl (by kernel_rfl) (by kernel_rfl) (by kernel_rfl) (fun _ _ _ h => h) (Or.inl ⟨by rfl, ?_⟩) (by assumption) ?_
    rotate_left
    · intro W hSW; go_simp; try with_reducible rfl
    try simp only [Act.put, List.setIfInBounds_toArray, List.set_cons_zero, List.set_cons_succ]
    refine wpAnyH_take (i := 26) (oi := ⟨_, _, _, _, _, _⟩) (v := ?_) rfl (by kernel_rfl) (by kernel_rfl) (by kernel_rfl) (fun _ _ _ h => h) (Or.inl ⟨by rfl, ?_⟩) (by assumption) ?_
    rotate_left
    · intro W hSW; go_simp; try with_reducible rfl
    try simp only [Act.put, List.setIfInBounds_toArray, List.set_cons_zero, List.set_cons_succ]
    refine wpAnyH_take (i := 27) (oi := ⟨_, _, _, _, _, _⟩) (v := ?_) rfl (by kernel_rfl) (by kernel_rfl) (by kernel_rfl) (fun _ _ _ h => h) (Or.inl ⟨by rfl, ?_⟩) (by assumption) ?_
    rotate_left
    · intro W hSW; go_simp; try with_reducible rfl
    try simp only [Act.put, List.setIfInBounds_toArray, List.set_cons_zero, List.set_cons_succ]
    refine wpAnyH_take (i := 28) (oi := ⟨_, _, _, _, _, _⟩) (v := ?_) rfl (by kernel_rfl) (by kernel_rfl) (by kernel_rfl) (fun _ _ _ h => h) (Or.inl ⟨by rfl, ?_⟩) (by assumption) ?_
    rotate_left
    · intro W hSW; refine exec_load_int (.tmp 113) ?_ G 8 ?_ (5 + (n : Int) + (tn : Int) + (cn : Int) + (an : Int)) ((hSW.cell (p := ⟨G, 8, none⟩) hGs).trans d5) <;> rfl
    try simp only [Act.put, List.setIfInBounds_toArray, List.set_cons_zero, List.set_cons_succ]
    refine wpAnyH_take (i := 29) (oi := ⟨_, _, _, _, _, _⟩) (v := ?_) rfl (by kernel_rfl) (by kernel_rfl) (by kernel_rfl) (fun _ _ _ h => h) (Or.inl ⟨by rfl, ?_⟩) (by assumption) ?_
    rotate_left
    · intro W hSW; go_simp; try with_reducible rfl
    try simp only [Act.put, List.setIfInBounds_toArray, List.set_cons_zero, List.set_cons_succ]
    refine wpAnyH_ready (rs := [30]) (by kernel_rfl) (by simp) ?_
    refine AllReadyH.cons (o := ⟨_, _, _, _, _, _⟩) rfl (fun K hK => ?_) AllReadyH.nil
    go_simp
    refine (first_head _ B A m cap n tn cn an sn Hm.out (HLd.out.keep fun p hp => hSc.cell (Nat.lt_of_lt_of_le hp hBs)) hcap hm2 hn1 (by omega) (by omega) (by omega) (by omega)).mono ?_
    rintro e wx5 ⟨rfl, hb⟩
    try simp only []
    have hS5 := hSc.trans (hb.mono hSc.size)
    refine hK.out _ _ hS5 (fun hHeld => ?_)
    clear hK K hb hSc
    have hSc := hS5
    clear hS5
    try simp only [Act.put, List.setIfInBounds_toArray, List.set_cons_zero, List.set_cons_succ]
    refine wpAnyH_take (i := 31) (oi := ⟨_, _, _, _, _, _⟩) (v := .bool false) rfl (by kernel_rfl) (by kernel_rfl) (by kernel_rfl) (fun _ _ _ h => h) (Or.inl ⟨by rfl, ?_⟩) (by assumption) ?_
    · intro W hSW; go_simp; first | done | omega | (simp; done) | (simp; omega)
    try simp only [Act.put, List.setIfInBounds_toArray, List.set_cons_zero, List.set_cons_succ]
    refine wpAnyH_take (i := 32) (oi := ⟨_, _, _, _, _, _⟩) (v := ?_) rfl (by kernel_rfl) (by kernel_rfl) (by kernel_rfl) (fun _ _ _ h => h) (Or.inl ⟨by rfl, ?_⟩) (by assumption) ?_
    rotate_left
    · intro W hSW; go_simp; try with_reducible rfl
    try simp only [Act.put, List.setIfInBounds_toArray, List.set_cons_zero, List.set_cons_succ]
    refine wpAnyH_take (i := 33) (oi := ⟨_, _, _, _, _, _⟩) (v := ?_) rfl (by kernel_rfl) (by kernel_rfl) (by kernel_rfl) (fun _ _ _ h => h) (Or.inl ⟨by rfl, ?_⟩) (by assumption) ?_
    rotate_left
    · intro W hSW; go_simp; try with_reducible rfl
    try simp only [Act.put, List.setIfInBounds_toArray, List.set_cons_zero, List.set_cons_succ]
    refine wpAnyH_take (i := 34) (oi := ⟨_, _, _, _, _, _⟩) (v := ?_) rfl (by kernel_rfl) (by kernel_rfl) (by kernel_rfl) (fun _ _ _ h => h) (Or.inl ⟨by rfl, ?_⟩) (by assumption) ?_
    rotate_left
    · intro W hSW; go_simp; try with_reducible rfl
    try simp only [Act.put, List.setIfInBounds_toArray, List.set_cons_zero, List.set_cons_succ]
    refine wpAnyH_take (i := 35) (oi := ⟨_, _, _, _, _, _⟩) (v := ?_) rfl (by kernel_rfl) (by kernel_rfl) (by kernel_rfl) (fun _ _ _ h => h) (Or.inl ⟨by rfl, ?_⟩) (by assumption) ?_
    rotate_left
    · intro W hSW; refine exec_load_int (.tmp 120) ?_ G 9 ?_ (5 + (n : Int) + (tn : Int) + (cn : Int) + (an : Int) + 1) ((hSW.cell (p := ⟨G, 9, none⟩) hGs).trans d6) <;> rfl
    try simp only [Act.put, List.setIfInBounds_toArray, List.set_cons_zero, List.set_cons_succ]
    refine wpAnyH_take (i := 36) (oi := ⟨_, _, _, _, _, _⟩) (v := ?_) rfl (by kernel_rfl) (by kernel_rfl) (by kernel_rfl) (fun _ _ _ h => h) (Or.inl ⟨by rfl, ?_⟩) (by assumption) ?_
    rotate_left
    · intro W hSW; go_simp; try with_reducible rfl
    try simp only [Act.put, List.setIfInBounds_toArray, List.set_cons_zero, List.set_cons_succ]
    refine wpAnyH_ready (rs := [37]) (by kernel_rfl) (by simp) ?_
    refine AllReadyH.cons (o := ⟨_, _, _, _, _, _⟩) rfl (fun K hK => ?_) AllReadyH.nil
    go_simp
    refine (first_body _ B A m cap n tn cn an sn Hm.out (HLd.out.keep fun p hp => hSc.cell (Nat.lt_of_lt_of_le hp hBs)) hcap hm2 hn1 (by omega) (by omega) (by omega) (by omega)).mono ?_
    rintro e wx6 ⟨rfl, hb⟩
    try simp only []
    have hS6 := hSc.trans (hb.mono hSc.size)
    refine hK.out _ _ hS6 (fun hHeld => ?_)
    clear hK K hb hSc
    have hSc := hS6
    clear hS6
    try simp only [Act.put, List.setIfInBounds_toArray, List.set_cons_zero, List.set_cons_succ]
    refine wpAnyH_take (i := 38) (oi := ⟨_, _, _, _, _, _⟩) (v := .bool false) rfl (by kernel_rfl) (by kernel_rfl) (by kernel_rfl) (fun _ _ _ h => h) (Or.inl ⟨by rfl, ?_⟩) (by assumption) ?_
    · intro W hSW; go_simp; first | done | omega | (simp; done) | (simp; omega)
    try simp only [Act.put, List.setIfInBounds_toArray, List.set_cons_zero, List.set_cons_succ]
    refine wpAnyH_take (i := 39) (oi := ⟨_, _, _, _, _, _⟩) (v := ?_) rfl (by kernel_rfl) (by kernel_rfl) (by kernel_rfl) (fun _ _ _ h => h) (Or.inl ⟨by rfl, ?_⟩) (by assumption) ?_
    rotate_left
    · intro W hSW; go_simp; try with_reducible rfl
    try simp only [Act.put, List.setIfInBounds_toArray, List.set_cons_zero, List.set_cons_succ]
    refine wpAnyH_take (i := 40) (oi := ⟨_, _, _, _, _, _⟩) (v := ?_) rfl (by kernel_rfl) (by kernel_rfl) (by kernel_rfl) (fun _ _ _ h => h) (Or.inl ⟨by rfl, ?_⟩) (by assumption) ?_
    rotate_left
    · intro W hSW; go_simp; try with_reducible rfl
    try simp only [Act.put, List.setIfInBounds_toArray, List.set_cons_zero, List.set_cons_succ]
    refine wpAnyH_take (i := 41) (oi := ⟨_, _, _, _, _, _⟩) (v := ?_) rfl (by kernel_rfl) (by kernel_rfl) (by kernel_rfl) (fun _ _ _ h => h) (Or.inl ⟨by rfl, ?_⟩) (by assumption) ?_
    rotate_left
    · intro W hSW; go_simp; try with_reducible rfl
    try simp only [Act.put, List.setIfInBounds_toArray, List.set_cons_zero, List.set_cons_succ]
    refine wpAnyH_take (i := 42) (oi := ⟨_, _, _, _, _, _⟩) (v := ?_) rfl (by kernel_rfl) (by kernel_rfl) (by kernel_rfl) (fun _ _ _ h => h) (Or.inl ⟨by rfl, ?_⟩) (by assumption) ?_
    rotate_left
    · intro W hSW; refine exec_load_int (.tmp 127) ?_ G 10 ?_ (5 + (n : Int) + (tn : Int) + (cn : Int) + (an : Int) + 1 + ((n : Int) + (tn : Int) + 9)) ((hSW.cell (p := ⟨G, 10, none⟩) hGs).trans d7) <;> rfl
    try simp only [Act.put, List.setIfInBounds_toArray, List.set_cons_zero, List.set_cons_succ]
    refine wpAnyH_take (i := 43) (oi := ⟨_, _, _, _, _, _⟩) (v := ?_) rfl (by kernel_rfl) (by kernel_rfl) (by kernel_rfl) (fun _ _ _ h => h) (Or.inl ⟨by rfl, ?_⟩) (by assumption) ?_
    rotate_left
    · intro W hSW; go_simp; try with_reducible rfl
    try simp only [Act.put, List.setIfInBounds_toArray, List.set_cons_zero, List.set_cons_succ]
    refine wpAnyH_ready (rs := [44]) (by kernel_rfl) (by simp) ?_
    refine AllReadyH.cons (o := ⟨_, _, _, _, _, _⟩) rfl (fun K hK => ?_) AllReadyH.nil
    go_simp
    refine (first_slot _ B A m cap n tn cn an sn Hm.out (HLd.out.keep fun p hp => hSc.cell (Nat.lt_of_lt_of_le hp hBs)) hcap hm2 hn1 (by omega) (by omega) (by omega) (by omega)).mono ?_
    rintro e wx7 ⟨rfl, hb⟩
    try simp only []
    have hS7 := hSc.trans (hb.mono hSc.size)
    refine hK.out _ _ hS7 (fun hHeld => ?_)
    clear hK K hb hSc
    have hSc := hS7
    clear hS7
    try simp only [Act.put, List.setIfInBounds_toArray, List.set_cons_zero, List.set_cons_succ]
    refine wpAnyH_take (i := 45) (oi := ⟨_, _, _, _, _, _⟩) (v := .bool false) rfl (by kernel_rfl) (by kernel_rfl) (by kernel_rfl) (fun _ _ _ h => h) (Or.inl ⟨by rfl, ?_⟩) (by assumption) ?_
    · intro W hSW; go_simp; first | done | omega | (simp; done) | (simp; omega)
    try simp only [Act.put, List.setIfInBounds_toArray, List.set_cons_zero, List.set_cons_succ]
    refine wpAnyH_take (i := 46) (oi := ⟨_, _, _, _, _, _⟩) (v := ?_) rfl (by kernel_rfl) (by kernel_rfl) (by kernel_rfl) (fun _ _ _ h => h) (Or.inl ⟨by rfl, ?_⟩) (by assumption) ?_
    rotate_left
    · intro W hSW; go_simp; try with_reducible rfl
    try simp only [Act.put, List.setIfInBounds_toArray, List.set_cons_zero, List.set_cons_succ]
    refine wpAnyH_done (by kernel_rfl) ?_ _
    have hl9 := hLd.below hGs hSc
    have hB9 : Below N w wx7 := hBd.trans (hSc.mono (by omega))
    have hz9 : G < wx7.heap.size := by have := hSc.size; omega
    clear hLd HLd hBd hSc d1 d2 d3 d4 d5 d6 d7 hGs hBs
    go_wp2_with ((with_reducible refine at_load 25 ?_); refine load_lay rfl _ rfl G rfl hl9 ?_)
    refine (partB_any _ n tn cn an sn at_).mono ?_
    rintro e w9 ⟨rfl, hb9⟩
    have hB10 : Below N w w9 := hB9.trans (hb9.mono (by omega))
    have hz10 : N < w9.heap.size := by have := hb9.size; omega
    rw [hpn]
    simp only [Nm.b]
    go_wp2_with fail
    refine (works_any _).mono ?_
    rintro e w10 ⟨rfl, hb10⟩
    have hB11 : Below N w w10 := hB10.trans (hb10.mono (by omega))
    go_wp2_with fail
    go_ret
    exact ⟨rfl, by rw [hN]; exact hB11⟩
  by_cases hhigh : (m : Int) ≤ at_
  · have hge : 0 ≤ at_ := by omega
    have hpn : pN n tn cn an sn at_ = .no := pN_high (by have := HlenI.out; omega)
    go_wp2_with fail
    have hLd : RowV w8.drew G 25 _ := hl8
    have hBd : Below N w w8.drew := hB8.drew
    have hGs : G < w8.drew.heap.size := hz8
    have HLd : Hid (LiesV w8.drew B A (nms (partsL n tn cn an sn))) := HL8.out.drew
    have hBs : B ≤ w8.drew.heap.size := hz8'
    clear hp8 hl8 hB8 hz8 HL8 hz8'
    obtain ⟨we, hwe⟩ : ∃ wd, w8.drew = wd := ⟨_, rfl⟩
    rw [hwe] at hLd hBd hGs HLd hBs
    have hSc : Below we.heap.size we w8.drew := by rw [hwe]; exact Below.refl _ _
    refine wp_region_held_drew (S := fun W => Below we.heap.size we W) (by kernel_rfl) hSc (fun hHeld => ?_)
    rw [hwe] at hSc hHeld ⊢
    clear hwe
    have d1 := hLd.cell (i := 4) rfl
    have d2 := hLd.cell (i := 5) rfl
    have d3 := hLd.cell (i := 6) rfl
    have d4 := hLd.cell (i := 7) rfl
    have d5 := hLd.cell (i := 8) rfl
    have d6 := hLd.cell (i := 9) rfl
    have d7 := hLd.cell (i := 10) rfl
    refine wpAnyH_take (i := 0) (oi := ⟨_, _, _, _, _, _⟩) (v := ?_) rfl (by kernel_rfl) (by kernel_rfl) (by kernel_rfl) (fun _ _ _ h => h) (Or.inl ⟨by rfl, ?_⟩) (by assumption) ?_
    rotate_left
    · intro W hSW; go_simp; try with_reducible rfl
    try simp only [Act.put, List.setIfInBounds_toArray, List.set_cons_zero, List.set_cons_succ]
    refine wpAnyH_take (i := 1) (oi := ⟨_, _, _, _, _, _⟩) (v := ?_) rfl (by kernel_rfl) (by kernel_rfl) (by kernel_rfl) (fun _ _ _ h => h) (Or.inl ⟨by rfl, ?_⟩) (by assumption) ?_
    rotate_left
    · intro W hSW; refine exec_load_int (.tmp 86) ?_ G 4 ?_ (5) ((hSW.cell (p := ⟨G, 4, none⟩) hGs).trans d1) <;> rfl
    try simp only [Act.put, List.setIfInBounds_toArray, List.set_cons_zero, List.set_cons_succ]
    refine wpAnyH_take (i := 2) (oi := ⟨_, _, _, _, _, _⟩) (v := ?_) rfl (by kernel_rfl) (by kernel_rfl) (by kernel_rfl) (fun _ _ _ h => h) (Or.inl ⟨by rfl, ?_⟩) (by assumption) ?_
    rotate_left
    · intro W hSW; go_simp; try with_reducible rfl
    try simp only [Act.put, List.setIfInBounds_toArray, List.set_cons_zero, List.set_cons_succ]
    refine wpAnyH_ready (rs := [3]) (by kernel_rfl) (by simp) ?_
    refine AllReadyH.cons (o := ⟨_, _, _, _, _, _⟩) rfl (fun K hK => ?_) AllReadyH.nil
    go_simp
    refine (first_index _ B A m cap n tn cn an sn Hm.out (HLd.out.keep fun p hp => hSc.cell (Nat.lt_of_lt_of_le hp hBs)) hcap hm2 hn1 (by omega) (by omega) (by omega) (by omega)).mono ?_
    rintro e wx1 ⟨rfl, hb⟩
    try simp only []
    have hS1 := hSc.trans (hb.mono hSc.size)
    refine hK.out _ _ hS1 (fun hHeld => ?_)
    clear hK K hb hSc
    have hSc := hS1
    clear hS1
    try simp only [Act.put, List.setIfInBounds_toArray, List.set_cons_zero, List.set_cons_succ]
    refine wpAnyH_take (i := 4) (oi := ⟨_, _, _, _, _, _⟩) (v := .bool false) rfl (by kernel_rfl) (by kernel_rfl) (by kernel_rfl) (fun _ _ _ h => h) (Or.inl ⟨by rfl, ?_⟩) (by assumption) ?_
    · intro W hSW; go_simp; first | done | omega | (simp; done) | (simp; omega)
    try simp only [Act.put, List.setIfInBounds_toArray, List.set_cons_zero, List.set_cons_succ]
    refine wpAnyH_take (i := 5) (oi := ⟨_, _, _, _, _, _⟩) (v := ?_) rfl (by kernel_rfl) (by kernel_rfl) (by kernel_rfl) (fun _ _ _ h => h) (Or.inl ⟨by rfl, ?_⟩) (by assumption) ?_
    rotate_left
    · intro W hSW; go_simp; try with_reducible rfl
    try simp only [Act.put, List.setIfInBounds_toArray, List.set_cons_zero, List.set_cons_succ]
    refine wpAnyH_take (i := 6) (oi := ⟨_, _, _, _, _, _⟩) (v := ?_) rfl (by kernel_rfl) (by kernel_rfl) (by kernel_rfl) (fun _ _ _ h => h) (Or.inl ⟨by rfl, ?_⟩) (by assumption) ?_
    rotate_left
    · intro W hSW; go_simp; try with_reducible rfl
    try simp only [Act.put, List.setIfInBounds_toArray, List.set_cons_zero, List.set_cons_succ]
    refine wpAnyH_take (i := 7) (oi := ⟨_, _, _, _, _, _⟩) (v := ?_) rfl (by kernel_rfl) (by kernel_rfl) (by kernel_rfl) (fun _ _ _ h => h) (Or.inl ⟨by rfl, ?_⟩) (by assumption) ?_
    rotate_left
    · intro W hSW; refine exec_load_int (.tmp 92) ?_ G 5 ?_ (5 + (n : Int)) ((hSW.cell (p := ⟨G, 5, none⟩) hGs).trans d2) <;> rfl
    try simp only [Act.put, List.setIfInBounds_toArray, List.set_cons_zero, List.set_cons_succ]
    refine wpAnyH_take (i := 8) (oi := ⟨_, _, _, _, _, _⟩) (v := ?_) rfl (by kernel_rfl) (by kernel_rfl) (by kernel_rfl) (fun _ _ _ h => h) (Or.inl ⟨by rfl, ?_⟩) (by assumption) ?_
    rotate_left
    · intro W hSW; go_simp; try with_reducible rfl
    try simp only [Act.put, List.setIfInBounds_toArray, List.set_cons_zero, List.set_cons_succ]
    refine wpAnyH_ready (rs := [9]) (by kernel_rfl) (by simp) ?_
    refine AllReadyH.cons (o := ⟨_, _, _, _, _, _⟩) rfl (fun K hK => ?_) AllReadyH.nil
    go_simp
    refine (first_text _ B A m cap n tn cn an sn Hm.out (HLd.out.keep fun p hp => hSc.cell (Nat.lt_of_lt_of_le hp hBs)) hcap hm2 hn1 (by omega) (by omega) (by omega) (by omega)).mono ?_
    rintro e wx2 ⟨rfl, hb⟩
    try simp only []
    have hS2 := hSc.trans (hb.mono hSc.size)
    refine hK.out _ _ hS2 (fun hHeld => ?_)
    clear hK K hb hSc
    have hSc := hS2
    clear hS2
    try simp only [Act.put, List.setIfInBounds_toArray, List.set_cons_zero, List.set_cons_succ]
    refine wpAnyH_take (i := 10) (oi := ⟨_, _, _, _, _, _⟩) (v := .bool false) rfl (by kernel_rfl) (by kernel_rfl) (by kernel_rfl) (fun _ _ _ h => h) (Or.inl ⟨by rfl, ?_⟩) (by assumption) ?_
    · intro W hSW; go_simp; first | done | omega | (simp; done) | (simp; omega)
    try simp only [Act.put, List.setIfInBounds_toArray, List.set_cons_zero, List.set_cons_succ]
    refine wpAnyH_take (i := 11) (oi := ⟨_, _, _, _, _, _⟩) (v := ?_) rfl (by kernel_rfl) (by kernel_rfl) (by kernel_rfl) (fun _ _ _ h => h) (Or.inl ⟨by rfl, ?_⟩) (by assumption) ?_
    rotate_left
    · intro W hSW; go_simp; try with_reducible rfl
    try simp only [Act.put, List.setIfInBounds_toArray, List.set_cons_zero, List.set_cons_succ]
    refine wpAnyH_take (i := 12) (oi := ⟨_, _, _, _, _, _⟩) (v := ?_) rfl (by kernel_rfl) (by kernel_rfl) (by kernel_rfl) (fun _ _ _ h => h) (Or.inl ⟨by rfl, ?_⟩) (by assumption) ?_
    rotate_left
    · intro W hSW; go_simp; try with_reducible rfl
    try simp only [Act.put, List.setIfInBounds_toArray, List.set_cons_zero, List.set_cons_succ]
    refine wpAnyH_take (i := 13) (oi := ⟨_, _, _, _, _, _⟩) (v := ?_) rfl (by kernel_rfl) (by kernel_rfl) (by kernel_rfl) (fun _ _ _ h => h) (Or.inl ⟨by rfl, ?_⟩) (by assumption) ?_
    rotate_left
    · intro W hSW; go_simp; try with_reducible rfl
    try simp only [Act.put, List.setIfInBounds_toArray, List.set_cons_zero, List.set_cons_succ]
    refine wpAnyH_take (i := 14) (oi := ⟨_, _, _, _, _, _⟩) (v := ?_) rfl (by kernel_rfl) (by kernel_rfl) (by kernel_rfl) (fun _ _ _ h => h) (Or.inl ⟨by rfl, ?_⟩) (by assumption) ?_
    rotate_left
    · intro W hSW; refine exec_load_int (.tmp 99) ?_ G 6 ?_ (5 + (n : Int) + (tn : Int)) ((hSW.cell (p := ⟨G, 6, none⟩) hGs).trans d3) <;> rfl
    try simp only [Act.put, List.setIfInBounds_toArray, List.set_cons_zero, List.set_cons_succ]
    refine wpAnyH_take (i := 15) (oi := ⟨_, _, _, _, _, _⟩) (v := ?_) rfl (by kernel_rfl) (by kernel_rfl) (by kernel_rfl) (fun _ _ _ h => h) (Or.inl ⟨by rfl, ?_⟩) (by assumption) ?_
    rotate_left
    · intro W hSW; go_simp; try with_reducible rfl
    try simp only [Act.put, List.setIfInBounds_toArray, List.set_cons_zero, List.set_cons_succ]
    refine wpAnyH_ready (rs := [16]) (by kernel_rfl) (by simp) ?_
    refine AllReadyH.cons (o := ⟨_, _, _, _, _, _⟩) rfl (fun K hK => ?_) AllReadyH.nil
    go_simp
    refine (first_clip _ B A m cap n tn cn an sn Hm.out (HLd.out.keep fun p hp => hSc.cell (Nat.lt_of_lt_of_le hp hBs)) hcap hm2 hn1 (by omega) (by omega) (by omega) (by omega)).mono ?_
    rintro e wx3 ⟨rfl, hb⟩
    try simp only []
    have hS3 := hSc.trans (hb.mono hSc.size)
    refine hK.out _ _ hS3 (fun hHeld => ?_)
    clear hK K hb hSc
    have hSc := hS3
    clear hS3
    try simp only [Act.put, List.setIfInBounds_toArray, List.set_cons_zero, List.set_cons_succ]
    refine wpAnyH_take (i := 17) (oi := ⟨_, _, _, _, _, _⟩) (v := .bool false) rfl (by kernel_rfl) (by kernel_rfl) (by kernel_rfl) (fun _ _ _ h => h) (Or.inl ⟨by rfl, ?_⟩) (by assumption) ?_
    · intro W hSW; go_simp; first | done | omega | (simp; done) | (simp; omega)
    try simp only [Act.put, List.setIfInBounds_toArray, List.set_cons_zero, List.set_cons_succ]
    refine wpAnyH_take (i := 18) (oi := ⟨_, _, _, _, _, _⟩) (v := ?_) rfl (by kernel_rfl) (by kernel_rfl) (by kernel_rfl) (fun _ _ _ h => h) (Or.inl ⟨by rfl, ?_⟩) (by assumption) ?_
    rotate_left
    · intro W hSW; go_simp; try with_reducible rfl
    try simp only [Act.put, List.setIfInBounds_toArray, List.set_cons_zero, List.set_cons_succ]
    refine wpAnyH_take (i := 19) (oi := ⟨_, _, _, _, _, _⟩) (v := ?_) rfl (by kernel_rfl) (by kernel_rfl) (by kernel_rfl) (fun _ _ _ h => h) (Or.inl ⟨by rfl, ?_⟩) (by assumption) ?_
    rotate_left
    · intro W hSW; go_simp; try with_reducible rfl
    try simp only [Act.put, List.setIfInBounds_toArray, List.set_cons_zero, List.set_cons_succ]
    refine wpAnyH_take (i := 20) (oi := ⟨_, _, _, _, _, _⟩) (v := ?_) rfl (by kernel_rfl) (by kernel_rfl) (by kernel_rfl) (fun _ _ _ h => h) (Or.inl ⟨by rfl, ?_⟩) (by assumption) ?_
    rotate_left
    · intro W hSW; go_simp; try with_reducible rfl
    try simp only [Act.put, List.setIfInBounds_toArray, List.set_cons_zero, List.set_cons_succ]
    refine wpAnyH_take (i := 21) (oi := ⟨_, _, _, _, _, _⟩) (v := ?_) rfl (by kernel_rfl) (by kernel_rfl) (by kernel_rfl) (fun _ _ _ h => h) (Or.inl ⟨by rfl, ?_⟩) (by assumption) ?_
    rotate_left
    · intro W hSW; refine exec_load_int (.tmp 106) ?_ G 7 ?_ (5 + (n : Int) + (tn : Int) + (cn : Int)) ((hSW.cell (p := ⟨G, 7, none⟩) hGs).trans d4) <;> rfl
    try simp only [Act.put, List.setIfInBounds_toArray, List.set_cons_zero, List.set_cons_succ]
    refine wpAnyH_take (i := 22) (oi := ⟨_, _, _, _, _, _⟩) (v := ?_) rfl (by kernel_rfl) (by kernel_rfl) (by kernel_rfl) (fun _ _ _ h => h) (Or.inl ⟨by rfl, ?_⟩) (by assumption) ?_
    rotate_left
    · intro W hSW; go_simp; try with_reducible rfl
    try simp only [Act.put, List.setIfInBounds_toArray, List.set_cons_zero, List.set_cons_succ]
    refine wpAnyH_ready (rs := [23]) (by kernel_rfl) (by simp) ?_
    refine AllReadyH.cons (o := ⟨_, _, _, _, _, _⟩) rfl (fun K hK => ?_) AllReadyH.nil
    go_simp
    refine (first_audit _ B A m cap n tn cn an sn Hm.out (HLd.out.keep fun p hp => hSc.cell (Nat.lt_of_lt_of_le hp hBs)) hcap hm2 hn1 (by omega) (by omega) (by omega) (by omega)).mono ?_
    rintro e wx4 ⟨rfl, hb⟩
    try simp only []
    have hS4 := hSc.trans (hb.mono hSc.size)
    refine hK.out _ _ hS4 (fun hHeld => ?_)
    clear hK K hb hSc
    have hSc := hS4
    clear hS4
    try simp only [Act.put, List.setIfInBounds_toArray, List.set_cons_zero, List.set_cons_succ]
    refine wpAnyH_take (i := 24) (oi := ⟨_, _, _, _, _, _⟩) (v := .bool false) rfl (by kernel_rfl) (by kernel_rfl) (by kernel_rfl) (fun _ _ _ h => h) (Or.inl ⟨by rfl, ?_⟩) (by assumption) ?_
    · intro W hSW; go_simp; first | done | omega | (simp; done) | (simp; omega)
    try simp only [Act.put, List.setIfInBounds_toArray, List.set_cons_zero, List.set_cons_succ]
    refine wpAnyH_take (i := 25) (oi := ⟨_, _, _, _, _, _⟩) (v := ?_) rfl (by kernel_rfl) (by kernel_rfl) (by kernel_rfl) (fun _ _ _ h => h) (Or.inl ⟨by rfl, ?_⟩) (by assumption) ?_
    rotate_left
    · intro W hSW; go_simp; try with_reducible rfl
    try simp only [Act.put, List.setIfInBounds_toArray, List.set_cons_zero, List.set_cons_succ]
    refine wpAnyH_take (i := 26) (oi := ⟨_, _, _, _, _, _⟩) (v := ?_) rfl (by kernel_rfl) (by kernel_rfl) (by kernel_rfl) (fun _ _ _ h => h) (Or.inl ⟨by rfl, ?_⟩) (by assumption) ?_
    rotate_left
    · intro W hSW; go_simp; try with_reducible rfl
    try simp only [Act.put, List.setIfInBounds_toArray, List.set_cons_zero, List.set_cons_succ]
    refine wpAnyH_take (i := 27) (oi := ⟨_, _, _, _, _, _⟩) (v := ?_) rfl (by kernel_rfl) (by kernel_rfl) (by kernel_rfl) (fun _ _ _ h => h) (Or.inl ⟨by rfl, ?_⟩) (by assumption) ?_
    rotate_left
    · intro W hSW; go_simp; try with_reducible rfl
    try simp only [Act.put, List.setIfInBounds_toArray, List.set_cons_zero, List.set_cons_succ]
    refine wpAnyH_take (i := 28) (oi := ⟨_, _, _, _, _, _⟩) (v := ?_) rfl (by kernel_rfl) (by kernel_rfl) (by kernel_rfl) (fun _ _ _ h => h) (Or.inl ⟨by rfl, ?_⟩) (by assumption) ?_
    rotate_left
    · intro W hSW; refine exec_load_int (.tmp 113) ?_ G 8 ?_ (5 + (n : Int) + (tn : Int) + (cn : Int) + (an : Int)) ((hSW.cell (p := ⟨G, 8, none⟩) hGs).trans d5) <;> rfl
    try simp only [Act.put, List.setIfInBounds_toArray, List.set_cons_zero, List.set_cons_succ]
    refine wpAnyH_take (i := 29) (oi := ⟨_, _, _, _, _, _⟩) (v := ?_) rfl (by kernel_rfl) (by kernel_rfl) (by kernel_rfl) (fun _ _ _ h => h) (Or.inl ⟨by rfl, ?_⟩) (by assumption) ?_
    rotate_left
    · intro W hSW; go_simp; try with_reducible rfl
    try simp only [Act.put, List.setIfInBounds_toArray, List.set_cons_zero, List.set_cons_succ]
    refine wpAnyH_ready (rs := [30]) (by kernel_rfl) (by simp) ?_
    refine AllReadyH.cons (o := ⟨_, _, _, _, _, _⟩) rfl (fun K hK => ?_) AllReadyH.nil
    go_simp
    refine (first_head _ B A m cap n tn cn an sn Hm.out (HLd.out.keep fun p hp => hSc.cell (Nat.lt_of_lt_of_le hp hBs)) hcap hm2 hn1 (by omega) (by omega) (by omega) (by omega)).mono ?_
    rintro e wx5 ⟨rfl, hb⟩
    try simp only []
    have hS5 := hSc.trans (hb.mono hSc.size)
    refine hK.out _ _ hS5 (fun hHeld => ?_)
    clear hK K hb hSc
    have hSc := hS5
    clear hS5
    try simp only [Act.put, List.setIfInBounds_toArray, List.set_cons_zero, List.set_cons_succ]
    refine wpAnyH_take (i := 31) (oi := ⟨_, _, _, _, _, _⟩) (v := .bool false) rfl (by kernel_rfl) (by kernel_rfl) (by kernel_rfl) (fun _ _ _ h => h) (Or.inl ⟨by rfl, ?_⟩) (by assumption) ?_
    · intro W hSW; go_simp; first | done | omega | (simp; done) | (simp; omega)
    try simp only [Act.put, List.setIfInBounds_toArray, List.set_cons_zero, List.set_cons_succ]
    refine wpAnyH_take (i := 32) (oi := ⟨_, _, _, _, _, _⟩) (v := ?_) rfl (by kernel_rfl) (by kernel_rfl) (by kernel_rfl) (fun _ _ _ h => h) (Or.inl ⟨by rfl, ?_⟩) (by assumption) ?_
    rotate_left
    · intro W hSW; go_simp; try with_reducible rfl
    try simp only [Act.put, List.setIfInBounds_toArray, List.set_cons_zero, List.set_cons_succ]
    refine wpAnyH_take (i := 33) (oi := ⟨_, _, _, _, _, _⟩) (v := ?_) rfl (by kernel_rfl) (by kernel_rfl) (by kernel_rfl) (fun _ _ _ h => h) (Or.inl ⟨by rfl, ?_⟩) (by assumption) ?_
    rotate_left
    · intro W hSW; go_simp; try with_reducible rfl
    try simp only [Act.put, List.setIfInBounds_toArray, List.set_cons_zero, List.set_cons_succ]
    refine wpAnyH_take (i := 34) (oi := ⟨_, _, _, _, _, _⟩) (v := ?_) rfl (by kernel_rfl) (by kernel_rfl) (by kernel_rfl) (fun _ _ _ h => h) (Or.inl ⟨by rfl, ?_⟩) (by assumption) ?_
    rotate_left
    · intro W hSW; go_simp; try with_reducible rfl
    try simp only [Act.put, List.setIfInBounds_toArray, List.set_cons_zero, List.set_cons_succ]
    refine wpAnyH_take (i := 35) (oi := ⟨_, _, _, _, _, _⟩) (v := ?_) rfl (by kernel_rfl) (by kernel_rfl) (by kernel_rfl) (fun _ _ _ h => h) (Or.inl ⟨by rfl, ?_⟩) (by assumption) ?_
    rotate_left
    · intro W hSW; refine exec_load_int (.tmp 120) ?_ G 9 ?_ (5 + (n : Int) + (tn : Int) + (cn : Int) + (an : Int) + 1) ((hSW.cell (p := ⟨G, 9, none⟩) hGs).trans d6) <;> rfl
    try simp only [Act.put, List.setIfInBounds_toArray, List.set_cons_zero, List.set_cons_succ]
    refine wpAnyH_take (i := 36) (oi := ⟨_, _, _, _, _, _⟩) (v := ?_) rfl (by kernel_rfl) (by kernel_rfl) (by kernel_rfl) (fun _ _ _ h => h) (Or.inl ⟨by rfl, ?_⟩) (by assumption) ?_
    rotate_left
    · intro W hSW; go_simp; try with_reducible rfl
    try simp only [Act.put, List.setIfInBounds_toArray, List.set_cons_zero, List.set_cons_succ]
    refine wpAnyH_ready (rs := [37]) (by kernel_rfl) (by simp) ?_
    refine AllReadyH.cons (o := ⟨_, _, _, _, _, _⟩) rfl (fun K hK => ?_) AllReadyH.nil
    go_simp
    refine (first_body _ B A m cap n tn cn an sn Hm.out (HLd.out.keep fun p hp => hSc.cell (Nat.lt_of_lt_of_le hp hBs)) hcap hm2 hn1 (by omega) (by omega) (by omega) (by omega)).mono ?_
    rintro e wx6 ⟨rfl, hb⟩
    try simp only []
    have hS6 := hSc.trans (hb.mono hSc.size)
    refine hK.out _ _ hS6 (fun hHeld => ?_)
    clear hK K hb hSc
    have hSc := hS6
    clear hS6
    try simp only [Act.put, List.setIfInBounds_toArray, List.set_cons_zero, List.set_cons_succ]
    refine wpAnyH_take (i := 38) (oi := ⟨_, _, _, _, _, _⟩) (v := .bool false) rfl (by kernel_rfl) (by kernel_rfl) (by kernel_rfl) (fun _ _ _ h => h) (Or.inl ⟨by rfl, ?_⟩) (by assumption) ?_
    · intro W hSW; go_simp; first | done | omega | (simp; done) | (simp; omega)
    try simp only [Act.put, List.setIfInBounds_toArray, List.set_cons_zero, List.set_cons_succ]
    refine wpAnyH_take (i := 39) (oi := ⟨_, _, _, _, _, _⟩) (v := ?_) rfl (by kernel_rfl) (by kernel_rfl) (by kernel_rfl) (fun _ _ _ h => h) (Or.inl ⟨by rfl, ?_⟩) (by assumption) ?_
    rotate_left
    · intro W hSW; go_simp; try with_reducible rfl
    try simp only [Act.put, List.setIfInBounds_toArray, List.set_cons_zero, List.set_cons_succ]
    refine wpAnyH_take (i := 40) (oi := ⟨_, _, _, _, _, _⟩) (v := ?_) rfl (by kernel_rfl) (by kernel_rfl) (by kernel_rfl) (fun _ _ _ h => h) (Or.inl ⟨by rfl, ?_⟩) (by assumption) ?_
    rotate_left
    · intro W hSW; go_simp; try with_reducible rfl
    try simp only [Act.put, List.setIfInBounds_toArray, List.set_cons_zero, List.set_cons_succ]
    refine wpAnyH_take (i := 41) (oi := ⟨_, _, _, _, _, _⟩) (v := ?_) rfl (by kernel_rfl) (by kernel_rfl) (by kernel_rfl) (fun _ _ _ h => h) (Or.inl ⟨by rfl, ?_⟩) (by assumption) ?_
    rotate_left
    · intro W hSW; go_simp; try with_reducible rfl
    try simp only [Act.put, List.setIfInBounds_toArray, List.set_cons_zero, List.set_cons_succ]
    refine wpAnyH_take (i := 42) (oi := ⟨_, _, _, _, _, _⟩) (v := ?_) rfl (by kernel_rfl) (by kernel_rfl) (by kernel_rfl) (fun _ _ _ h => h) (Or.inl ⟨by rfl, ?_⟩) (by assumption) ?_
    rotate_left
    · intro W hSW; refine exec_load_int (.tmp 127) ?_ G 10 ?_ (5 + (n : Int) + (tn : Int) + (cn : Int) + (an : Int) + 1 + ((n : Int) + (tn : Int) + 9)) ((hSW.cell (p := ⟨G, 10, none⟩) hGs).trans d7) <;> rfl
    try simp only [Act.put, List.setIfInBounds_toArray, List.set_cons_zero, List.set_cons_succ]
    refine wpAnyH_take (i := 43) (oi := ⟨_, _, _, _, _, _⟩) (v := ?_) rfl (by kernel_rfl) (by kernel_rfl) (by kernel_rfl) (fun _ _ _ h => h) (Or.inl ⟨by rfl, ?_⟩) (by assumption) ?_
    rotate_left
    · intro W hSW; go_simp; try with_reducible rfl
    try simp only [Act.put, List.setIfInBounds_toArray, List.set_cons_zero, List.set_cons_succ]
    refine wpAnyH_ready (rs := [44]) (by kernel_rfl) (by simp) ?_
    refine AllReadyH.cons (o := ⟨_, _, _, _, _, _⟩) rfl (fun K hK => ?_) AllReadyH.nil
    go_simp
    refine (first_slot _ B A m cap n tn cn an sn Hm.out (HLd.out.keep fun p hp => hSc.cell (Nat.lt_of_lt_of_le hp hBs)) hcap hm2 hn1 (by omega) (by omega) (by omega) (by omega)).mono ?_
    rintro e wx7 ⟨rfl, hb⟩
    try simp only []
    have hS7 := hSc.trans (hb.mono hSc.size)
    refine hK.out _ _ hS7 (fun hHeld => ?_)
    clear hK K hb hSc
    have hSc := hS7
    clear hS7
    try simp only [Act.put, List.setIfInBounds_toArray, List.set_cons_zero, List.set_cons_succ]
    refine wpAnyH_take (i := 45) (oi := ⟨_, _, _, _, _, _⟩) (v := .bool false) rfl (by kernel_rfl) (by kernel_rfl) (by kernel_rfl) (fun _ _ _ h => h) (Or.inl ⟨by rfl, ?_⟩) (by assumption) ?_
    · intro W hSW; go_simp; first | done | omega | (simp; done) | (simp; omega)
    try simp only [Act.put, List.setIfInBounds_toArray, List.set_cons_zero, List.set_cons_succ]
    refine wpAnyH_take (i := 46) (oi := ⟨_, _, _, _, _, _⟩) (v := ?_) rfl (by kernel_rfl) (by kernel_rfl) (by kernel_rfl) (fun _ _ _ h => h) (Or.inl ⟨by rfl, ?_⟩) (by assumption) ?_
    rotate_left
    · intro W hSW; go_simp; try with_reducible rfl
    try simp only [Act.put, List.setIfInBounds_toArray, List.set_cons_zero, List.set_cons_succ]
    refine wpAnyH_done (by kernel_rfl) ?_ _
    have hl9 := hLd.below hGs hSc
    have hB9 : Below N w wx7 := hBd.trans (hSc.mono (by omega))
    have hz9 : G < wx7.heap.size := by have := hSc.size; omega
    clear hLd HLd hBd hSc d1 d2 d3 d4 d5 d6 d7 hGs hBs
    go_wp2_with ((with_reducible refine at_load 25 ?_); refine load_lay rfl _ rfl G rfl hl9 ?_)
    refine (partB_any _ n tn cn an sn at_).mono ?_
    rintro e w9 ⟨rfl, hb9⟩
    have hB10 : Below N w w9 := hB9.trans (hb9.mono (by omega))
    have hz10 : N < w9.heap.size := by have := hb9.size; omega
    rw [hpn]
    simp only [Nm.b]
    go_wp2_with fail
    refine (works_any _).mono ?_
    rintro e w10 ⟨rfl, hb10⟩
    have hB11 : Below N w w10 := hB10.trans (hb10.mono (by omega))
    go_wp2_with fail
    go_ret
    exact ⟨rfl, by rw [hN]; exact hB11⟩
  obtain ⟨k, rfl⟩ : ∃ k : Nat, at_ = k := ⟨at_.toNat, by omega⟩
  have hkm : (k : Int) < (m : Int) := by omega
  have hkm' : k < (partsL n tn cn an sn).length := by rw [← Hm.out]; omega
  have hk0 : (0 : Int) ≤ (k : Int) := by omega
  obtain ⟨b, off, rfl, hbB, hcell⟩ := HL8.out.at_ (nms_get (partsL_get n tn cn an sn hkm'))
  clear hlow hhigh hkm'
  go_wp2_with fail
  have hLd : RowV w8.drew G 25 _ := hl8
  have hBd : Below N w w8.drew := hB8.drew
  have hGs : G < w8.drew.heap.size := hz8
  have HLd : Hid (LiesV w8.drew B _ (nms (partsL n tn cn an sn))) := HL8.out.drew
  have hBs : B ≤ w8.drew.heap.size := hz8'
  clear hp8 hl8 hB8 hz8 HL8 hz8'
  obtain ⟨we, hwe⟩ : ∃ wd, w8.drew = wd := ⟨_, rfl⟩
  rw [hwe] at hLd hBd hGs HLd hBs
  have hSc : Below we.heap.size we w8.drew := by rw [hwe]; exact Below.refl _ _
  refine wp_region_held_drew (S := fun W => Below we.heap.size we W) (by kernel_rfl) hSc (fun hHeld => ?_)
  rw [hwe] at hSc hHeld ⊢
  clear hwe
  have d1 := hLd.cell (i := 4) rfl
  have d2 := hLd.cell (i := 5) rfl
  have d3 := hLd.cell (i := 6) rfl
  have d4 := hLd.cell (i := 7) rfl
  have d5 := hLd.cell (i := 8) rfl
  have d6 := hLd.cell (i := 9) rfl
  have d7 := hLd.cell (i := 10) rfl
  refine wpAnyH_take (i := 0) (oi := ⟨_, _, _, _, _, _⟩) (v := ?_) rfl (by kernel_rfl) (by kernel_rfl) (by kernel_rfl) (fun _ _ _ h => h) (Or.inl ⟨by rfl, ?_⟩) (by assumption) ?_
  rotate_left
  · intro W hSW; go_simp; try with_reducible rfl
  try simp only [Act.put, List.setIfInBounds_toArray, List.set_cons_zero, List.set_cons_succ]
  refine wpAnyH_take (i := 1) (oi := ⟨_, _, _, _, _, _⟩) (v := ?_) rfl (by kernel_rfl) (by kernel_rfl) (by kernel_rfl) (fun _ _ _ h => h) (Or.inl ⟨by rfl, ?_⟩) (by assumption) ?_
  rotate_left
  · intro W hSW; refine exec_load_int (.tmp 86) ?_ G 4 ?_ (5) ((hSW.cell (p := ⟨G, 4, none⟩) hGs).trans d1) <;> rfl
  try simp only [Act.put, List.setIfInBounds_toArray, List.set_cons_zero, List.set_cons_succ]
  refine wpAnyH_take (i := 2) (oi := ⟨_, _, _, _, _, _⟩) (v := ?_) rfl (by kernel_rfl) (by kernel_rfl) (by kernel_rfl) (fun _ _ _ h => h) (Or.inl ⟨by rfl, ?_⟩) (by assumption) ?_
  rotate_left
  · intro W hSW; go_simp; try with_reducible rfl
  try simp only [Act.put, List.setIfInBounds_toArray, List.set_cons_zero, List.set_cons_succ]
  refine wpAnyH_ready (rs := [3]) (by kernel_rfl) (by simp) ?_
  refine AllReadyH.cons (o := ⟨_, _, _, _, _, _⟩) rfl (fun K hK => ?_) AllReadyH.nil
  go_simp
  refine (first_index _ B _ m cap n tn cn an sn Hm.out (HLd.out.keep fun p hp => hSc.cell (Nat.lt_of_lt_of_le hp hBs)) hcap hm2 hn1 (by omega) (by omega) (by omega) (by omega)).mono ?_
  rintro e wx1 ⟨rfl, hb⟩
  try simp only []
  have hS1 := hSc.trans (hb.mono hSc.size)
  refine hK.out _ _ hS1 (fun hHeld => ?_)
  clear hK K hb hSc
  have hSc := hS1
  clear hS1
  try simp only [Act.put, List.setIfInBounds_toArray, List.set_cons_zero, List.set_cons_succ]
  refine wpAnyH_take (i := 4) (oi := ⟨_, _, _, _, _, _⟩) (v := .bool false) rfl (by kernel_rfl) (by kernel_rfl) (by kernel_rfl) (fun _ _ _ h => h) (Or.inl ⟨by rfl, ?_⟩) (by assumption) ?_
  · intro W hSW; go_simp; first | done | omega | (simp; done) | (simp; omega)
  try simp only [Act.put, List.setIfInBounds_toArray, List.set_cons_zero, List.set_cons_succ]
  refine wpAnyH_take (i := 5) (oi := ⟨_, _, _, _, _, _⟩) (v := ?_) rfl (by kernel_rfl) (by kernel_rfl) (by kernel_rfl) (fun _ _ _ h => h) (Or.inl ⟨by rfl, ?_⟩) (by assumption) ?_
  rotate_left
  · intro W hSW; go_simp; try with_reducible rfl
  try simp only [Act.put, List.setIfInBounds_toArray, List.set_cons_zero, List.set_cons_succ]
  refine wpAnyH_take (i := 6) (oi := ⟨_, _, _, _, _, _⟩) (v := ?_) rfl (by kernel_rfl) (by kernel_rfl) (by kernel_rfl) (fun _ _ _ h => h) (Or.inl ⟨by rfl, ?_⟩) (by assumption) ?_
  rotate_left
  · intro W hSW; go_simp; try with_reducible rfl
  try simp only [Act.put, List.setIfInBounds_toArray, List.set_cons_zero, List.set_cons_succ]
  refine wpAnyH_take (i := 7) (oi := ⟨_, _, _, _, _, _⟩) (v := ?_) rfl (by kernel_rfl) (by kernel_rfl) (by kernel_rfl) (fun _ _ _ h => h) (Or.inl ⟨by rfl, ?_⟩) (by assumption) ?_
  rotate_left
  · intro W hSW; refine exec_load_int (.tmp 92) ?_ G 5 ?_ (5 + (n : Int)) ((hSW.cell (p := ⟨G, 5, none⟩) hGs).trans d2) <;> rfl
  try simp only [Act.put, List.setIfInBounds_toArray, List.set_cons_zero, List.set_cons_succ]
  refine wpAnyH_take (i := 8) (oi := ⟨_, _, _, _, _, _⟩) (v := ?_) rfl (by kernel_rfl) (by kernel_rfl) (by kernel_rfl) (fun _ _ _ h => h) (Or.inl ⟨by rfl, ?_⟩) (by assumption) ?_
  rotate_left
  · intro W hSW; go_simp; try with_reducible rfl
  try simp only [Act.put, List.setIfInBounds_toArray, List.set_cons_zero, List.set_cons_succ]
  refine wpAnyH_ready (rs := [9]) (by kernel_rfl) (by simp) ?_
  refine AllReadyH.cons (o := ⟨_, _, _, _, _, _⟩) rfl (fun K hK => ?_) AllReadyH.nil
  go_simp
  refine (first_text _ B _ m cap n tn cn an sn Hm.out (HLd.out.keep fun p hp => hSc.cell (Nat.lt_of_lt_of_le hp hBs)) hcap hm2 hn1 (by omega) (by omega) (by omega) (by omega)).mono ?_
  rintro e wx2 ⟨rfl, hb⟩
  try simp only []
  have hS2 := hSc.trans (hb.mono hSc.size)
  refine hK.out _ _ hS2 (fun hHeld => ?_)
  clear hK K hb hSc
  have hSc := hS2
  clear hS2
  try simp only [Act.put, List.setIfInBounds_toArray, List.set_cons_zero, List.set_cons_succ]
  refine wpAnyH_take (i := 10) (oi := ⟨_, _, _, _, _, _⟩) (v := .bool false) rfl (by kernel_rfl) (by kernel_rfl) (by kernel_rfl) (fun _ _ _ h => h) (Or.inl ⟨by rfl, ?_⟩) (by assumption) ?_
  · intro W hSW; go_simp; first | done | omega | (simp; done) | (simp; omega)
  try simp only [Act.put, List.setIfInBounds_toArray, List.set_cons_zero, List.set_cons_succ]
  refine wpAnyH_take (i := 11) (oi := ⟨_, _, _, _, _, _⟩) (v := ?_) rfl (by kernel_rfl) (by kernel_rfl) (by kernel_rfl) (fun _ _ _ h => h) (Or.inl ⟨by rfl, ?_⟩) (by assumption) ?_
  rotate_left
  · intro W hSW; go_simp; try with_reducible rfl
  try simp only [Act.put, List.setIfInBounds_toArray, List.set_cons_zero, List.set_cons_succ]
  refine wpAnyH_take (i := 12) (oi := ⟨_, _, _, _, _, _⟩) (v := ?_) rfl (by kernel_rfl) (by kernel_rfl) (by kernel_rfl) (fun _ _ _ h => h) (Or.inl ⟨by rfl, ?_⟩) (by assumption) ?_
  rotate_left
  · intro W hSW; go_simp; try with_reducible rfl
  try simp only [Act.put, List.setIfInBounds_toArray, List.set_cons_zero, List.set_cons_succ]
  refine wpAnyH_take (i := 13) (oi := ⟨_, _, _, _, _, _⟩) (v := ?_) rfl (by kernel_rfl) (by kernel_rfl) (by kernel_rfl) (fun _ _ _ h => h) (Or.inl ⟨by rfl, ?_⟩) (by assumption) ?_
  rotate_left
  · intro W hSW; go_simp; try with_reducible rfl
  try simp only [Act.put, List.setIfInBounds_toArray, List.set_cons_zero, List.set_cons_succ]
  refine wpAnyH_take (i := 14) (oi := ⟨_, _, _, _, _, _⟩) (v := ?_) rfl (by kernel_rfl) (by kernel_rfl) (by kernel_rfl) (fun _ _ _ h => h) (Or.inl ⟨by rfl, ?_⟩) (by assumption) ?_
  rotate_left
  · intro W hSW; refine exec_load_int (.tmp 99) ?_ G 6 ?_ (5 + (n : Int) + (tn : Int)) ((hSW.cell (p := ⟨G, 6, none⟩) hGs).trans d3) <;> rfl
  try simp only [Act.put, List.setIfInBounds_toArray, List.set_cons_zero, List.set_cons_succ]
  refine wpAnyH_take (i := 15) (oi := ⟨_, _, _, _, _, _⟩) (v := ?_) rfl (by kernel_rfl) (by kernel_rfl) (by kernel_rfl) (fun _ _ _ h => h) (Or.inl ⟨by rfl, ?_⟩) (by assumption) ?_
  rotate_left
  · intro W hSW; go_simp; try with_reducible rfl
  try simp only [Act.put, List.setIfInBounds_toArray, List.set_cons_zero, List.set_cons_succ]
  refine wpAnyH_ready (rs := [16]) (by kernel_rfl) (by simp) ?_
  refine AllReadyH.cons (o := ⟨_, _, _, _, _, _⟩) rfl (fun K hK => ?_) AllReadyH.nil
  go_simp
  refine (first_clip _ B _ m cap n tn cn an sn Hm.out (HLd.out.keep fun p hp => hSc.cell (Nat.lt_of_lt_of_le hp hBs)) hcap hm2 hn1 (by omega) (by omega) (by omega) (by omega)).mono ?_
  rintro e wx3 ⟨rfl, hb⟩
  try simp only []
  have hS3 := hSc.trans (hb.mono hSc.size)
  refine hK.out _ _ hS3 (fun hHeld => ?_)
  clear hK K hb hSc
  have hSc := hS3
  clear hS3
  try simp only [Act.put, List.setIfInBounds_toArray, List.set_cons_zero, List.set_cons_succ]
  refine wpAnyH_take (i := 17) (oi := ⟨_, _, _, _, _, _⟩) (v := .bool false) rfl (by kernel_rfl) (by kernel_rfl) (by kernel_rfl) (fun _ _ _ h => h) (Or.inl ⟨by rfl, ?_⟩) (by assumption) ?_
  · intro W hSW; go_simp; first | done | omega | (simp; done) | (simp; omega)
  try simp only [Act.put, List.setIfInBounds_toArray, List.set_cons_zero, List.set_cons_succ]
  refine wpAnyH_take (i := 18) (oi := ⟨_, _, _, _, _, _⟩) (v := ?_) rfl (by kernel_rfl) (by kernel_rfl) (by kernel_rfl) (fun _ _ _ h => h) (Or.inl ⟨by rfl, ?_⟩) (by assumption) ?_
  rotate_left
  · intro W hSW; go_simp; try with_reducible rfl
  try simp only [Act.put, List.setIfInBounds_toArray, List.set_cons_zero, List.set_cons_succ]
  refine wpAnyH_take (i := 19) (oi := ⟨_, _, _, _, _, _⟩) (v := ?_) rfl (by kernel_rfl) (by kernel_rfl) (by kernel_rfl) (fun _ _ _ h => h) (Or.inl ⟨by rfl, ?_⟩) (by assumption) ?_
  rotate_left
  · intro W hSW; go_simp; try with_reducible rfl
  try simp only [Act.put, List.setIfInBounds_toArray, List.set_cons_zero, List.set_cons_succ]
  refine wpAnyH_take (i := 20) (oi := ⟨_, _, _, _, _, _⟩) (v := ?_) rfl (by kernel_rfl) (by kernel_rfl) (by kernel_rfl) (fun _ _ _ h => h) (Or.inl ⟨by rfl, ?_⟩) (by assumption) ?_
  rotate_left
  · intro W hSW; go_simp; try with_reducible rfl
  try simp only [Act.put, List.setIfInBounds_toArray, List.set_cons_zero, List.set_cons_succ]
  refine wpAnyH_take (i := 21) (oi := ⟨_, _, _, _, _, _⟩) (v := ?_) rfl (by kernel_rfl) (by kernel_rfl) (by kernel_rfl) (fun _ _ _ h => h) (Or.inl ⟨by rfl, ?_⟩) (by assumption) ?_
  rotate_left
  · intro W hSW; refine exec_load_int (.tmp 106) ?_ G 7 ?_ (5 + (n : Int) + (tn : Int) + (cn : Int)) ((hSW.cell (p := ⟨G, 7, none⟩) hGs).trans d4) <;> rfl
  try simp only [Act.put, List.setIfInBounds_toArray, List.set_cons_zero, List.set_cons_succ]
  refine wpAnyH_take (i := 22) (oi := ⟨_, _, _, _, _, _⟩) (v := ?_) rfl (by kernel_rfl) (by kernel_rfl) (by kernel_rfl) (fun _ _ _ h => h) (Or.inl ⟨by rfl, ?_⟩) (by assumption) ?_
  rotate_left
  · intro W hSW; go_simp; try with_reducible rfl
  try simp only [Act.put, List.setIfInBounds_toArray, List.set_cons_zero, List.set_cons_succ]
  refine wpAnyH_ready (rs := [23]) (by kernel_rfl) (by simp) ?_
  refine AllReadyH.cons (o := ⟨_, _, _, _, _, _⟩) rfl (fun K hK => ?_) AllReadyH.nil
  go_simp
  refine (first_audit _ B _ m cap n tn cn an sn Hm.out (HLd.out.keep fun p hp => hSc.cell (Nat.lt_of_lt_of_le hp hBs)) hcap hm2 hn1 (by omega) (by omega) (by omega) (by omega)).mono ?_
  rintro e wx4 ⟨rfl, hb⟩
  try simp only []
  have hS4 := hSc.trans (hb.mono hSc.size)
  refine hK.out _ _ hS4 (fun hHeld => ?_)
  clear hK K hb hSc
  have hSc := hS4
  clear hS4
  try simp only [Act.put, List.setIfInBounds_toArray, List.set_cons_zero, List.set_cons_succ]
  refine wpAnyH_take (i := 24) (oi := ⟨_, _, _, _, _, _⟩) (v := .bool false) rfl (by kernel_rfl) (by kernel_rfl) (by kernel_rfl) (fun _ _ _ h => h) (Or.inl ⟨by rfl, ?_⟩) (by assumption) ?_
  · intro W hSW; go_simp; first | done | omega | (simp; done) | (simp; omega)
  try simp only [Act.put, List.setIfInBounds_toArray, List.set_cons_zero, List.set_cons_succ]
  refine wpAnyH_take (i := 25) (oi := ⟨_, _, _, _, _, _⟩) (v := ?_) rfl (by kernel_rfl) (by kernel_rfl) (by kernel_rfl) (fun _ _ _ h => h) (Or.inl ⟨by rfl, ?_⟩) (by assumption) ?_
  rotate_left
  · intro W hSW; go_simp; try with_reducible rfl
  try simp only [Act.put, List.setIfInBounds_toArray, List.set_cons_zero, List.set_cons_succ]
  refine wpAnyH_take (i := 26) (oi := ⟨_, _, _, _, _, _⟩) (v := ?_) rfl (by kernel_rfl) (by kernel_rfl) (by kernel_rfl) (fun _ _ _ h => h) (Or.inl ⟨by rfl, ?_⟩) (by assumption) ?_
  rotate_left
  · intro W hSW; go_simp; try with_reducible rfl
  try simp only [Act.put, List.setIfInBounds_toArray, List.set_cons_zero, List.set_cons_succ]
  refine wpAnyH_take (i := 27) (oi := ⟨_, _, _, _, _, _⟩) (v := ?_) rfl (by kernel_rfl) (by kernel_rfl) (by kernel_rfl) (fun _ _ _ h => h) (Or.inl ⟨by rfl, ?_⟩) (by assumption) ?_
  rotate_left
  · intro W hSW; go_simp; try with_reducible rfl
  try simp only [Act.put, List.setIfInBounds_toArray, List.set_cons_zero, List.set_cons_succ]
  refine wpAnyH_take (i := 28) (oi := ⟨_, _, _, _, _, _⟩) (v := ?_) rfl (by kernel_rfl) (by kernel_rfl) (by kernel_rfl) (fun _ _ _ h => h) (Or.inl ⟨by rfl, ?_⟩) (by assumption) ?_
  rotate_left
  · intro W hSW; refine exec_load_int (.tmp 113) ?_ G 8 ?_ (5 + (n : Int) + (tn : Int) + (cn : Int) + (an : Int)) ((hSW.cell (p := ⟨G, 8, none⟩) hGs).trans d5) <;> rfl
  try simp only [Act.put, List.setIfInBounds_toArray, List.set_cons_zero, List.set_cons_succ]
  refine wpAnyH_take (i := 29) (oi := ⟨_, _, _, _, _, _⟩) (v := ?_) rfl (by kernel_rfl) (by kernel_rfl) (by kernel_rfl) (fun _ _ _ h => h) (Or.inl ⟨by rfl, ?_⟩) (by assumption) ?_
  rotate_left
  · intro W hSW; go_simp; try with_reducible rfl
  try simp only [Act.put, List.setIfInBounds_toArray, List.set_cons_zero, List.set_cons_succ]
  refine wpAnyH_ready (rs := [30]) (by kernel_rfl) (by simp) ?_
  refine AllReadyH.cons (o := ⟨_, _, _, _, _, _⟩) rfl (fun K hK => ?_) AllReadyH.nil
  go_simp
  refine (first_head _ B _ m cap n tn cn an sn Hm.out (HLd.out.keep fun p hp => hSc.cell (Nat.lt_of_lt_of_le hp hBs)) hcap hm2 hn1 (by omega) (by omega) (by omega) (by omega)).mono ?_
  rintro e wx5 ⟨rfl, hb⟩
  try simp only []
  have hS5 := hSc.trans (hb.mono hSc.size)
  refine hK.out _ _ hS5 (fun hHeld => ?_)
  clear hK K hb hSc
  have hSc := hS5
  clear hS5
  try simp only [Act.put, List.setIfInBounds_toArray, List.set_cons_zero, List.set_cons_succ]
  refine wpAnyH_take (i := 31) (oi := ⟨_, _, _, _, _, _⟩) (v := .bool false) rfl (by kernel_rfl) (by kernel_rfl) (by kernel_rfl) (fun _ _ _ h => h) (Or.inl ⟨by rfl, ?_⟩) (by assumption) ?_
  · intro W hSW; go_simp; first | done | omega | (simp; done) | (simp; omega)
  try simp only [Act.put, List.setIfInBounds_toArray, List.set_cons_zero, List.set_cons_succ]
  refine wpAnyH_take (i := 32) (oi := ⟨_, _, _, _, _, _⟩) (v := ?_) rfl (by kernel_rfl) (by kernel_rfl) (by kernel_rfl) (fun _ _ _ h => h) (Or.inl ⟨by rfl, ?_⟩) (by assumption) ?_
  rotate_left
  · intro W hSW; go_simp; try with_reducible rfl
  try simp only [Act.put, List.setIfInBounds_toArray, List.set_cons_zero, List.set_cons_succ]
  refine wpAnyH_take (i := 33) (oi := ⟨_, _, _, _, _, _⟩) (v := ?_) rfl (by kernel_rfl) (by kernel_rfl) (by kernel_rfl) (fun _ _ _ h => h) (Or.inl ⟨by rfl, ?_⟩) (by assumption) ?_
  rotate_left
  · intro W hSW; go_simp; try with_reducible rfl
  try simp only [Act.put, List.setIfInBounds_toArray, List.set_cons_zero, List.set_cons_succ]
  refine wpAnyH_take (i := 34) (oi := ⟨_, _, _, _, _, _⟩) (v := ?_) rfl (by kernel_rfl) (by kernel_rfl) (by kernel_rfl) (fun _ _ _ h => h) (Or.inl ⟨by rfl, ?_⟩) (by assumption) ?_
  rotate_left
  · intro W hSW; go_simp; try with_reducible rfl
  try simp only [Act.put, List.setIfInBounds_toArray, List.set_cons_zero, List.set_cons_succ]
  refine wpAnyH_take (i := 35) (oi := ⟨_, _, _, _, _, _⟩) (v := ?_) rfl (by kernel_rfl) (by kernel_rfl) (by kernel_rfl) (fun _ _ _ h => h) (Or.inl ⟨by rfl, ?_⟩) (by assumption) ?_
  rotate_left
  · intro W hSW; refine exec_load_int (.tmp 120) ?_ G 9 ?_ (5 + (n : Int) + (tn : Int) + (cn : Int) + (an : Int) + 1) ((hSW.cell (p := ⟨G, 9, none⟩) hGs).trans d6) <;> rfl
  try simp only [Act.put, List.setIfInBounds_toArray, List.set_cons_zero, List.set_cons_succ]
  refine wpAnyH_take (i := 36) (oi := ⟨_, _, _, _, _, _⟩) (v := ?_) rfl (by kernel_rfl) (by kernel_rfl) (by kernel_rfl) (fun _ _ _ h => h) (Or.inl ⟨by rfl, ?_⟩) (by assumption) ?_
  rotate_left
  · intro W hSW; go_simp; try with_reducible rfl
  try simp only [Act.put, List.setIfInBounds_toArray, List.set_cons_zero, List.set_cons_succ]
  refine wpAnyH_ready (rs := [37]) (by kernel_rfl) (by simp) ?_
  refine AllReadyH.cons (o := ⟨_, _, _, _, _, _⟩) rfl (fun K hK => ?_) AllReadyH.nil
  go_simp
  refine (first_body _ B _ m cap n tn cn an sn Hm.out (HLd.out.keep fun p hp => hSc.cell (Nat.lt_of_lt_of_le hp hBs)) hcap hm2 hn1 (by omega) (by omega) (by omega) (by omega)).mono ?_
  rintro e wx6 ⟨rfl, hb⟩
  try simp only []
  have hS6 := hSc.trans (hb.mono hSc.size)
  refine hK.out _ _ hS6 (fun hHeld => ?_)
  clear hK K hb hSc
  have hSc := hS6
  clear hS6
  try simp only [Act.put, List.setIfInBounds_toArray, List.set_cons_zero, List.set_cons_succ]
  refine wpAnyH_take (i := 38) (oi := ⟨_, _, _, _, _, _⟩) (v := .bool false) rfl (by kernel_rfl) (by kernel_rfl) (by kernel_rfl) (fun _ _ _ h => h) (Or.inl ⟨by rfl, ?_⟩) (by assumption) ?_
  · intro W hSW; go_simp; first | done | omega | (simp; done) | (simp; omega)
  try simp only [Act.put, List.setIfInBounds_toArray, List.set_cons_zero, List.set_cons_succ]
  refine wpAnyH_take (i := 39) (oi := ⟨_, _, _, _, _, _⟩) (v := ?_) rfl (by kernel_rfl) (by kernel_rfl) (by kernel_rfl) (fun _ _ _ h => h) (Or.inl ⟨by rfl, ?_⟩) (by assumption) ?_
  rotate_left
  · intro W hSW; go_simp; try with_reducible rfl
  try simp only [Act.put, List.setIfInBounds_toArray, List.set_cons_zero, List.set_cons_succ]
  refine wpAnyH_take (i := 40) (oi := ⟨_, _, _, _, _, _⟩) (v := ?_) rfl (by kernel_rfl) (by kernel_rfl) (by kernel_rfl) (fun _ _ _ h => h) (Or.inl ⟨by rfl, ?_⟩) (by assumption) ?_
  rotate_left
  · intro W hSW; go_simp; try with_reducible rfl
  try simp only [Act.put, List.setIfInBounds_toArray, List.set_cons_zero, List.set_cons_succ]
  refine wpAnyH_take (i := 41) (oi := ⟨_, _, _, _, _, _⟩) (v := ?_) rfl (by kernel_rfl) (by kernel_rfl) (by kernel_rfl) (fun _ _ _ h => h) (Or.inl ⟨by rfl, ?_⟩) (by assumption) ?_
  rotate_left
  · intro W hSW; go_simp; try with_reducible rfl
  try simp only [Act.put, List.setIfInBounds_toArray, List.set_cons_zero, List.set_cons_succ]
  refine wpAnyH_take (i := 42) (oi := ⟨_, _, _, _, _, _⟩) (v := ?_) rfl (by kernel_rfl) (by kernel_rfl) (by kernel_rfl) (fun _ _ _ h => h) (Or.inl ⟨by rfl, ?_⟩) (by assumption) ?_
  rotate_left
  · intro W hSW; refine exec_load_int (.tmp 127) ?_ G 10 ?_ (5 + (n : Int) + (tn : Int) + (cn : Int) + (an : Int) + 1 + ((n : Int) + (tn : Int) + 9)) ((hSW.cell (p := ⟨G, 10, none⟩) hGs).trans d7) <;> rfl
  try simp only [Act.put, List.setIfInBounds_toArray, List.set_cons_zero, List.set_cons_succ]
  refine wpAnyH_take (i := 43) (oi := ⟨_, _, _, _, _, _⟩) (v := ?_) rfl (by kernel_rfl) (by kernel_rfl) (by kernel_rfl) (fun _ _ _ h => h) (Or.inl ⟨by rfl, ?_⟩) (by assumption) ?_
  rotate_left
  · intro W hSW; go_simp; try with_reducible rfl
  try simp only [Act.put, List.setIfInBounds_toArray, List.set_cons_zero, List.set_cons_succ]
  refine wpAnyH_ready (rs := [44]) (by kernel_rfl) (by simp) ?_
  refine AllReadyH.cons (o := ⟨_, _, _, _, _, _⟩) rfl (fun K hK => ?_) AllReadyH.nil
  go_simp
  refine (first_slot _ B _ m cap n tn cn an sn Hm.out (HLd.out.keep fun p hp => hSc.cell (Nat.lt_of_lt_of_le hp hBs)) hcap hm2 hn1 (by omega) (by omega) (by omega) (by omega)).mono ?_
  rintro e wx7 ⟨rfl, hb⟩
  try simp only []
  have hS7 := hSc.trans (hb.mono hSc.size)
  refine hK.out _ _ hS7 (fun hHeld => ?_)
  clear hK K hb hSc
  have hSc := hS7
  clear hS7
  try simp only [Act.put, List.setIfInBounds_toArray, List.set_cons_zero, List.set_cons_succ]
  refine wpAnyH_take (i := 45) (oi := ⟨_, _, _, _, _, _⟩) (v := .bool false) rfl (by kernel_rfl) (by kernel_rfl) (by kernel_rfl) (fun _ _ _ h => h) (Or.inl ⟨by rfl, ?_⟩) (by assumption) ?_
  · intro W hSW; go_simp; first | done | omega | (simp; done) | (simp; omega)
  try simp only [Act.put, List.setIfInBounds_toArray, List.set_cons_zero, List.set_cons_succ]
  refine wpAnyH_take (i := 46) (oi := ⟨_, _, _, _, _, _⟩) (v := ?_) rfl (by kernel_rfl) (by kernel_rfl) (by kernel_rfl) (fun _ _ _ h => h) (Or.inl ⟨by rfl, ?_⟩) (by assumption) ?_
  rotate_left
  · intro W hSW; go_simp; try with_reducible rfl
  try simp only [Act.put, List.setIfInBounds_toArray, List.set_cons_zero, List.set_cons_succ]
  refine wpAnyH_done (by kernel_rfl) ?_ _
  have hl9 := hLd.below hGs hSc
  have hB9 : Below N w wx7 := hBd.trans (hSc.mono (by omega))
  have hz9 : G < wx7.heap.size := by have := hSc.size; omega
  clear hLd HLd hBd hSc d1 d2 d3 d4 d5 d6 d7 hGs hBs
  go_wp2_with ((with_reducible refine at_load 25 ?_); refine load_lay rfl _ rfl G rfl hl9 ?_)
  refine (partB_any _ n tn cn an sn (k : Int)).mono ?_
  rintro e w9 ⟨rfl, hb9⟩
  have hB10 : Below N w w9 := hB9.trans (hb9.mono (by omega))
  have hz10 : N < w9.heap.size := by have := hb9.size; omega
  generalize pN n tn cn an sn (k : Int) = nm
  go_wp2_with fail
  refine (works_any _).mono ?_
  rintro e w10 ⟨rfl, hb10⟩
  have hB11 : Below N w w10 := hB10.trans (hb10.mono (by omega))
  go_wp2_with fail
  go_ret
  exact ⟨rfl, by rw [hN]; exact hB11⟩
end Go.Proofs.Ytabigpbnacfajaa
