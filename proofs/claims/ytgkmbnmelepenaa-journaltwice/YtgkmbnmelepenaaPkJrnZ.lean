/-
  Layer 9: the contract of the reference's Targets.
  Layer 9: the laws' works.
-/
import Derived.Test.YtgkmbnmelepenaaPkJrnT
import Derived.Test.YtgkmbnmelepenaaPkJrnWk
import Derived.Test.YtgkmbnmelepenaaPkBuildS
import Derived.Test.YtgkmbnmelepenaaPkJrnX
namespace Go.Proofs.Ytgkmbnmelepenaa
open Go.RowKit
set_option linter.unusedVariables false
set_option linter.unusedSimpArgs false

theorem builtCh0 (x : Int) : Try.prog.built 66 [(0, .int .i64 x)] = some (ChI.cs (x, zeroSec)).toArray := by kernel_rfl
theorem builtCh (x : Int) (s : Sec) : Try.prog.built 66 [(0, .int .i64 x), (1, .agg s.cs.toArray)] = some (ChI.cs (x, s)).toArray := built_chg Try.zeroC9 Try.underlying66 (by kernel_rfl) x s
theorem chi0_size : (Value.agg chi0.cs.toArray).cells.size = 257 := by rw [show (Value.agg chi0.cs.toArray).cells = chi0.cs.toArray from rfl, List.size_toArray, ChI.cs_length]
theorem num_two {x : Sec} {i : Nat} (hi : i + 1 < 256) : numAt x.1 i 2 = (x.1.getD i 0).toNat + 256 * (x.1.getD (i + 1) 0).toNat := by
  obtain ⟨l, hl⟩ := x
  simp only
  have h1 : i < l.length := by omega
  have h2 : i + 1 < l.length := by omega
  have e : (l.drop i).take 2 = [l[i], l[i + 1]] := by
    rw [List.drop_eq_getElem_cons h1, List.drop_eq_getElem_cons h2]
    rfl
  rw [numAt, e, List.getD_eq_getElem?_getD, List.getD_eq_getElem?_getD, List.getElem?_eq_getElem h1, List.getElem?_eq_getElem h2]
  simp [leN]

theorem LiesV.of_own2 {w : World} {base size n : Nat} {e : TypeId} {A : Option Addr} {m c : Nat} {cs : List Value} (h : w.ownsRow base e size (.slice A m c) n cs) : LiesV w w.heap.size A cs := by
  intro hx
  rcases h.2 with ⟨hv, rfl⟩ | ⟨g, cap, cur, hv, _, hg, _⟩
  · exact absurd (List.eq_nil_of_length_eq_zero (by simpa using h.1)) hx
  · injection hv with h1 h2 h3
    subst h1
    have hl := h.lt g rfl
    exact ⟨g, 0, rfl, hl.2, fun i v hv => by have := h.cells (g := g) rfl i v hv; rwa [Addr.add_lit] at this⟩
/-- What the reference's Targets answers. -/
def RTgt (w w' : World) (o : Option (List Int)) (e : Ending) : Prop := ∃ A m c, e = .returned (.tuple #[.slice A m c, .bool o.isSome]) ∧ m ≤ 123 ∧ (∀ ts, o = some ts → m = ts.length ∧ LiesV w' w'.heap.size A (ts.map iv)) ∧ Below w.heap.size w w'

set_option maxRecDepth 100000 in
set_option maxHeartbeats 2000000 in
theorem rjtargets_any (w : World) (x : Sec) :
    Calls Try.prog 11 #[.agg x.cs.toArray] w fun e w' => RTgt w w' (targetsS x) e := by
  obtain ⟨n, hcn⟩ : ∃ n, cnt x = n := ⟨_, rfl⟩
  have hn256 : n < 256 := by rw [← hcn]; exact cnt_lt x
  have Hcn := Lib.hid hcn
  go_enter Try.func11, Try.ntmps11
  go_wp2_with ((with_reducible refine at_box 23 ?_); refine wpList_box_rowV rfl 23 _ rfl x.cs rfl ?_)
  intro w1 hr1 hb1 hs1
  have c4 := sec_byte hr1 4 (by omega)
  rw [show (x.1.getD 4 0).toNat = n from hcn] at c4
  clear hcn
  generalize hN : w.heap.size = N at *
  by_cases h1 : n < 1
  · have ht := Lib.hid (targets_none (x := x) (.inl (by rw [Hcn.out]; exact h1)))
    go_wp2_with fail
    go_ret2
    rw [ht.out]
    exact ⟨none, 0, 0, rfl, by omega, fun ts h => (by cases h), by first | exact hb1 | (rw [hN]; exact hb1)⟩
  by_cases h2 : 123 < n
  · have ht := Lib.hid (targets_none (x := x) (.inr (.inl (by rw [Hcn.out]; exact h2))))
    go_wp2_with fail
    go_ret2
    rw [ht.out]
    exact ⟨none, 0, 0, rfl, by omega, fun ts h => (by cases h), by first | exact hb1 | (rw [hN]; exact hb1)⟩
  obtain ⟨ts, hts⟩ : ∃ ts, numsAt x.1 5 n = ts := ⟨_, rfl⟩
  have Hts := Lib.hid hts
  have Hlen : Hid (n = ts.length) := by show _ = _; rw [← hts, numsAt_length]
  have HX1 := Lib.hid hr1
  have HB1 := Lib.hid hb1
  have hz1 : N + 1 ≤ w1.heap.size := by omega
  have HZ1 := Lib.hid hz1
  clear hts hr1 hb1 hs1 hz1
  have HO4 : Hid (w1.ownsRow (N + 1) 66 257 (.slice none 0 0) 0 (chis (blanks (ts.take 0)))) := World.ownsRow_nil _ _ _ _
  have HO6 : Hid (w1.ownsRow (N + 1) 3 1 (.slice none 0 0) 0 ((ts.take 0).map iv)) := World.ownsRow_nil _ _ _ _
  go_wp2_with fail
  clear c4
  go_loopw [4, 6, 7] (fun v4 v6 v7 W => ∃ (k : Nat) (A4 A6 : Option Addr) (c4 c6 : Nat), k ≤ n ∧ v7 = .int .i64 k ∧ v4 = .slice A4 k c4 ∧ v6 = .slice A6 k c6 ∧ Hid (W.ownsRow (N + 1) 66 257 (.slice A4 k c4) k (chis (blanks (ts.take k)))) ∧ Hid (W.ownsRow (N + 1) 3 1 (.slice A6 k c6) k ((ts.take k).map iv)) ∧ Hid (RowV W N 23 x.cs) ∧ Hid (Below N w W) ∧ Hid (N + 1 ≤ W.heap.size)) (fun _ _ v _ => n - (intOf v).toNat)
  case atStart => exact ⟨0, none, none, 0, 0, Nat.zero_le _, rfl, rfl, rfl, HO4, HO6, HX1, HB1, HZ1⟩
  case round =>
    obtain ⟨k, A4, A6, c4, c6, hk, rfl, rfl, rfl, H4, H6, HX, HB, HZ⟩ := hrel
    clear HO4 HO6 HX1 HB1 HZ1
    by_cases hlt : k < n
    · have hlt' : (k : Int) < (n : Int) := by omega
      have hk0 : (0 : Int) ≤ (k : Int) := by omega
      obtain ⟨a, ha⟩ : ∃ a, (x.1.getD (5 + 2 * k) 0).toNat = a := ⟨_, rfl⟩
      obtain ⟨b, hb⟩ : ∃ b, (x.1.getD (6 + 2 * k) 0).toNat = b := ⟨_, rfl⟩
      have ca := sec_byte HX.out (5 + 2 * k) (by omega)
      have cb := sec_byte HX.out (6 + 2 * k) (by omega)
      have ha6 : a < 256 := by rw [← ha]; exact UInt8.toNat_lt _
      have hb6 : b < 256 := by rw [← hb]; exact UInt8.toNat_lt _
      have hx : ts[k]? = some ((a : Int) + 256 * (b : Int)) := by
        rw [← Hts.out, numsAt, List.getElem?_map, List.getElem?_range hlt, Option.map_some, num_two (by omega), ha, show 5 + 2 * k + 1 = 6 + 2 * k by omega, hb]
        rfl
      have Hx := Lib.hid hx
      rw [ha] at ca
      rw [hb] at cb
      clear ha hb hx
      have w1a : IntKind.i64.wrap (2 * (k : Int)) = 2 * (k : Int) := IntWalk.i64_in _ (by omega)
      have w2a : IntKind.i64.wrap (5 + 2 * (k : Int)) = 5 + 2 * (k : Int) := IntWalk.i64_in _ (by omega)
      have w3a : IntKind.i64.wrap (6 + 2 * (k : Int)) = 6 + 2 * (k : Int) := IntWalk.i64_in _ (by omega)
      have w6a : IntKind.i64.wrap (a : Int) = (a : Int) := IntWalk.i64_in _ (by omega)
      have w7a : IntKind.i64.wrap (b : Int) = (b : Int) := IntWalk.i64_in _ (by omega)
      have w4a : IntKind.i64.wrap (256 * (b : Int)) = 256 * (b : Int) := IntWalk.i64_in _ (by omega)
      have w5a : IntKind.i64.wrap ((a : Int) + 256 * (b : Int)) = (a : Int) + 256 * (b : Int) := IntWalk.i64_in _ (by omega)
      have q1 : (0 : Int) ≤ 5 + 2 * (k : Int) := by omega
      have q2 : (0 : Int) ≤ 6 + 2 * (k : Int) := by omega
      have q3 : 5 + 2 * (k : Int) < 256 := by omega
      have q4 : 6 + 2 * (k : Int) < 256 := by omega
      have t1 : (5 + 2 * (k : Int)).toNat = 5 + 2 * k := by omega
      have t2 : (6 + 2 * (k : Int)).toNat = 6 + 2 * k := by omega
      go_wp2_with fail
      refine wp_region_still_tail 14 (by kernel_rfl) (by kernel_rfl) ?_
      simp only [List.take_succ_cons, List.take_zero, List.drop_succ_cons, List.drop_zero]
      iterate 14 still_step
      refine wpStill_nil ?_
      change wpList _ _ _ _ _ wr.drew
      clear ca cb w1a w2a w3a w4a w5a w6a w7a q1 q2 q3 q4 t1 t2
      have H4d := Lib.hid (show wr.drew.ownsRow (N + 1) 66 257 (.slice A4 k c4) k (chis (blanks (ts.take k))) from H4.out)
      have H6d := Lib.hid (show wr.drew.ownsRow (N + 1) 3 1 (.slice A6 k c6) k ((ts.take k).map iv) from H6.out)
      have HXd : Hid (RowV wr.drew N 23 x.cs) := HX.out
      have HBd : Hid (Below N w wr.drew) := HB.out.drew
      have HZd : Hid (N + 1 ≤ wr.drew.heap.size) := HZ.out
      clear H4 H6 HX HB HZ
      generalize wr.drew = wd at *
      generalize ht : (a : Int) + 256 * (b : Int) = t at *
      clear ht ha6 hb6
      go_wp2_with (first
        | ((with_reducible refine at_build 66 ?_); refine wpList_build_to rfl 66 _ rfl (ChI.cs (t, zeroSec)) (by rw [Array.toList_map]; exact builtCh0 t) ?_)
        | ((with_reducible refine at_buildSlice 33 ?_); refine wpList_buildSlice_oneV rfl 33 66 _ rfl (ChI.cs (t, zeroSec)) rfl Try.underlying33 Try.infoCh (ChI.cs_length _) (by decide) (by decide) ?_))
      intro v1 hr1 hb1 hs1
      have hzd := HZd.out
      have o4 := own_below H4d.out hb1
      have o6 := own_below H6d.out hb1
      have hx1 := HXd.out.below (by omega) hb1
      have hB1 : Below N w v1 := HBd.out.trans (hb1.mono (by omega))
      have hz1 : N + 1 ≤ v1.heap.size := by omega
      clear H4d H6d HXd HBd HZd hb1 hs1
      generalize hG1 : wd.heap.size = G1 at *
      go_wp2_with (at_builtin; refine wpList_append_one rfl _ _ 33 rfl (N + 1) 66 Try.underlying33 Try.infoCh chi0_size (by decide) (.slice A4 k c4) k _ rfl o4 G1 (ChI.cs (t, zeroSec)) rfl hr1 (ChI.cs_length _) (ChI.one _) (by unfold maxLen; omega) (by omega) hz1 ?_)
      intro v4 v2 o4' hg2 hl2
      obtain ⟨A4', c4', rfl, _, _⟩ := own_slice o4'
      have e4 : chis (blanks (ts.take k)) ++ ChI.cs (t, zeroSec) = chis (blanks (ts.take (k + 1))) := by
        rw [take_succ' Hx.out, ← chis_snoc]
        congr 1
        simp [blanks]
      rw [e4] at o4'
      have hap : (Value.slice A6 k c6).ownBlock = none ∨ (Value.slice A6 k c6).ownBlock ≠ (Value.slice A4 k c4).ownBlock := by
        cases h : (Value.slice A6 k c6).ownBlock with
        | none => exact .inl rfl
        | some j => exact .inr fun e => own_apart o6 o4 (by decide) h e.symm
      have o6' := o6.kept hg2 hap
      have hge : ∀ j, (Value.slice A4 k c4).ownBlock = some j → N + 1 ≤ j := own_ge o4
      have hx2 := hx1.keep hg2 (fun e => by have := hge _ e; omega)
      have hB2 := hB1.grown hg2 (by omega) (fun j e => by have := hge _ e; omega)
      have hz2 : N + 1 ≤ v2.heap.size := by have := hg2.size; omega
      clear o4 o6 hr1 hx1 hB1 hz1 hg2 hl2 hge e4 hzd hap
      have rl : RowV (v2.alloc (.cells #[.int .i64 t] 3)) v2.heap.size 3 [.int .i64 t] := RowV.new v2 3 _
      have o6a := o6'.alloc (.cells #[.int .i64 t] 3)
      have hza : N + 1 ≤ (v2.alloc (.cells #[.int .i64 t] 3)).heap.size := by simp; omega
      go_wp2_with (at_builtin; refine wpList_append_one rfl _ _ 35 rfl (N + 1) 3 Try.underlying35 Try.infoI rfl (by decide) (.slice A6 k c6) k _ rfl o6a v2.heap.size [.int .i64 t] rfl rl rfl (by simp [Value.oneCell']) (by unfold maxLen; omega) (by omega) hza ?_)
      intro v6 v3 o6b hg3 hl3
      obtain ⟨A6', c6', rfl, _, _⟩ := own_slice o6b
      have e6 : (ts.map iv).take k ++ [.int .i64 t] = (ts.take (k + 1)).map iv := by
        rw [take_succ' Hx.out, List.map_append, List.map_take]
        rfl
      rw [e6] at o6b
      have o4a := o4'.alloc (.cells #[.int .i64 t] 3)
      have hap : (Value.slice A4' (k + 1) c4').ownBlock = none ∨ (Value.slice A4' (k + 1) c4').ownBlock ≠ (Value.slice A6 k c6).ownBlock := by
        cases h : (Value.slice A4' (k + 1) c4').ownBlock with
        | none => exact .inl rfl
        | some j => exact .inr fun e => own_apart o4a o6a (by decide) h e.symm
      have o4b := o4a.kept hg3 hap
      have hge : ∀ j, (Value.slice A6 k c6).ownBlock = some j → N + 1 ≤ j := own_ge o6a
      have hx3 := (hx2.alloc (.cells #[.int .i64 t] 3)).keep hg3 (fun e => by have := hge _ e; omega)
      have hB3 := (hB2.alloc (by omega) (.cells #[.int .i64 t] 3)).grown hg3 (by omega) (fun j e => by have := hge _ e; omega)
      have hz3 : N + 1 ≤ v3.heap.size := by have := hg3.size; omega
      have K4 := Lib.hid o4b
      have K6 := Lib.hid o6b
      have KX := Lib.hid hx3
      have KB := Lib.hid hB3
      have KZ := Lib.hid hz3
      clear rl o6a hza hg3 hl3 e6 o4a hap o4b o6b hge hx3 hB3 hz3 o4' o6' hx2 hB2 hz2
      go_wp2_with fail
      go_roundw
      case rel => exact ⟨k + 1, A4', A6', c4', c6', by omega, by go_num, rfl, rfl, K4, K6, KX, KB, KZ⟩
      case measure => simp [intOf]; omega
    · obtain rfl : k = n := by omega
      have ht4 : ts.take k = ts := List.take_of_length_le (by rw [← Hlen.out]; exact Nat.le_refl _)
      have h4 := H4.out
      have h6 := H6.out
      rw [ht4] at h4 h6
      have l4 := LiesV.of_own2 h4
      have l6 := LiesV.of_own2 h6
      have hXl := HX.out.lt
      have hZz := HZ.out
      clear H4 H6 h4 h6 ht4
      go_wp2_with fail
      obtain ⟨wd, hwd⟩ : ∃ wd, wr.drew = wd := ⟨_, rfl⟩
      have hSc : Below wd.heap.size wd wr.drew := by rw [hwd]; exact Below.refl _ _
      have hL4 : LiesV wr.drew wr.drew.heap.size A4 (chis (blanks ts)) := l4
      have hL6 : LiesV wr.drew wr.drew.heap.size A6 (ts.map iv) := l6
      have hXd : RowV wr.drew N 23 x.cs := HX.out.drew
      have hBd : Below N w wr.drew := HB.out.drew
      have hNs : N + 1 ≤ wr.drew.heap.size := hZz
      rw [hwd] at hL4 hL6 hXd hBd hNs
      clear HX HB HZ l4 l6 hXl hZz
      refine wp_region_held_drew (S := fun W => Below wd.heap.size wd W) (by kernel_rfl) hSc (fun hHeld => ?_)
      rw [hwd] at hSc hHeld ⊢
      clear hwd
      have szS := sec_size x
      refine wpAnyH_take (i := 0) (oi := ⟨_, _, _, _, _, _⟩) (v := ?_) rfl (by kernel_rfl) (by kernel_rfl) (by kernel_rfl) (fun _ _ _ h => h) (Or.inl ⟨by rfl, ?_⟩) (by assumption) ?_
      rotate_left
      · intro W hSW; go_simp; try with_reducible rfl
      try simp only [Act.put, List.setIfInBounds_toArray, List.set_cons_zero, List.set_cons_succ]
      refine wpAnyH_take (i := 1) (oi := ⟨_, _, _, _, _, _⟩) (v := ?_) rfl (by kernel_rfl) (by kernel_rfl) (by kernel_rfl) (fun _ _ _ h => h) (Or.inl ⟨by rfl, ?_⟩) (by assumption) ?_
      rotate_left
      · intro W hSW; go_simp; try with_reducible rfl
      try simp only [Act.put, List.setIfInBounds_toArray, List.set_cons_zero, List.set_cons_succ]
      refine wpAnyH_take (i := 3) (oi := ⟨_, _, _, _, _, _⟩) (v := ?_) rfl (by kernel_rfl) (by kernel_rfl) (by kernel_rfl) (fun _ _ _ h => h) (Or.inl ⟨by rfl, ?_⟩) (by assumption) ?_
      rotate_left
      · intro W hSW; refine exec_load_row 23 (.tmp 1) ?_ N ?_ _ (hXd.below hNs hSW) Try.underlying23 rfl szS <;> rfl
      try simp only [Act.put, List.setIfInBounds_toArray, List.set_cons_zero, List.set_cons_succ]
      refine wpAnyH_ready (rs := [2]) (by kernel_rfl) (by simp) ?_
      refine AllReadyH.cons (o := ⟨_, _, _, _, _, _⟩) rfl (fun K hK => ?_) AllReadyH.nil
      go_simp
      refine (rjhead_any wd _ A4 k c4 (blanks ts) hL4 (by rw [blanks_length]; exact Hlen.out) (Nat.le_refl _) (by omega)).mono ?_
      rintro e w2 ⟨rfl, hb2⟩
      try simp only []
      have hS2 := hSc.trans (hb2.mono hSc.size)
      rw [blanks_map]
      refine hK.out _ _ hS2 (fun hHeld => ?_)
      clear hK K hSc
      have hSc := hS2
      clear hS2
      try simp only [Act.put, List.setIfInBounds_toArray, List.set_cons_zero, List.set_cons_succ]
      refine wpAnyH_take (i := 4) (oi := ⟨_, _, _, _, _, _⟩) (v := .bool (decide (headS ts = x))) rfl (by kernel_rfl) (by kernel_rfl) (by kernel_rfl) (fun _ _ _ h => h) (Or.inl ⟨by rfl, ?_⟩) (by assumption) ?_
      · intro W hSW; exact exec_eql_sec (.tmp 48) (.tmp 49) 23 rfl (headS ts) x rfl rfl
      try simp only [Act.put, List.setIfInBounds_toArray, List.set_cons_zero, List.set_cons_succ]
      refine wpAnyH_take (i := 5) (oi := ⟨_, _, _, _, _, _⟩) (v := ?_) rfl (by kernel_rfl) (by kernel_rfl) (by kernel_rfl) (fun _ _ _ h => h) (Or.inl ⟨by rfl, ?_⟩) (by assumption) ?_
      rotate_left
      · intro W hSW; go_simp; try with_reducible rfl
      try simp only [Act.put, List.setIfInBounds_toArray, List.set_cons_zero, List.set_cons_succ]
      refine wpAnyH_take (i := 6) (oi := ⟨_, _, _, _, _, _⟩) (v := ?_) rfl (by kernel_rfl) (by kernel_rfl) (by kernel_rfl) (fun _ _ _ h => h) (Or.inl ⟨by rfl, ?_⟩) (by assumption) ?_
      rotate_left
      · intro W hSW; go_simp; try with_reducible rfl
      try simp only [Act.put, List.setIfInBounds_toArray, List.set_cons_zero, List.set_cons_succ]
      refine wpAnyH_done (by kernel_rfl) ?_ _
      have hBe := hBd.trans (hSc.mono (by omega))
      have hRe := (hL6.below hSc).le hSc.size
      have Hc := Lib.hid (show numsAt x.1 5 (cnt x) = ts by rw [Hcn.out]; exact Hts.out)
      by_cases hh : headS ts = x
      · have ht := Lib.hid (show targetsS x = some ts by rw [targets_some (by rw [Hcn.out]; omega) (by rw [Hcn.out]; omega) (by rw [Hc.out]; exact hh), Hc.out])
        rw [decide_eq_true hh]
        go_wp2_with fail
        go_ret2
        rw [ht.out]
        exact ⟨A6, k, c6, rfl, by omega, fun t h => by injection h with h; subst h; exact ⟨Hlen.out, hRe⟩, by first | exact hBe | (rw [hN]; exact hBe)⟩
      · have ht := Lib.hid (targets_none (x := x) (.inr (.inr (by rw [Hc.out]; exact hh))))
        rw [decide_eq_false hh]
        go_wp2_with fail
        go_ret2
        rw [ht.out]
        exact ⟨A6, k, c6, rfl, by omega, fun t h => (by cases h), by first | exact hBe | (rw [hN]; exact hBe)⟩
end Go.Proofs.Ytgkmbnmelepenaa
namespace Go.Proofs.Ytgkmbnmelepenaa
open Go.RowKit
set_option linter.unusedVariables false
set_option linter.unusedSimpArgs false

def puts0 : List PutI := [(2, 7), (6, 9)]
theorem puts0_chi : puts0.map PutI.chi = c0L := rfl
theorem load_sec_midG {w : World} {ops : Array Oper} {rest : List Oper} {o : Oper} {A : Act} {Q : Exit → Act → World → Prop} (hw : Region.wanted o (yielded ops A.tmps) = true) (x : Operand) (ho : o.op = .load 23 x) (b k : Nat) {s : Sec}
    (hx : A.eval x = .pointer (some ⟨b, k, none⟩)) (hc : w.rangeAt b k s.cs)
    (h : wpList Try.prog ops Q rest (A.put o.dst (.agg s.cs.toArray)) w) : wpList Try.prog ops Q (o :: rest) A w := by
  refine wpList_wants hw fun K hK => ?_
  unfold Oper.wp
  rw [exec_load_mid 23 x ho b k hx s.cs _ hc Try.underlying23 rfl (sec_size s)]
  exact hK _ _ h
theorem exec_eql_self {W : World} {ρ : Operand → Value} {o : Oper} (x y : Operand) (u : TypeId) (ho : o.op = .binOp .eql 23 x y u) (s : Sec) (hx : ρ x = .agg s.cs.toArray) (hy : ρ y = .agg s.cs.toArray) :
    (execOp ρ o).run Try.prog W = .ok (.value (.bool true)) W := by
  rw [exec_eql_sec x y u ho s s hx hy, decide_eq_true (rfl : s = s)]
theorem c0_sec {w : World} {B gc : Nat} (h : LiesV w B (some ⟨gc, 0, none⟩) (chis c0L)) : w.rangeAt gc 258 (fillSec 9).cs := by
  obtain ⟨b, o, e, hr, _⟩ := h.chi (k := 1) (c := (6, fillSec 9)) rfl
  injection e with e
  injection e with e1 e2
  subst e1 e2
  intro j v hj
  have := hr (j + 1) v (by simpa [ChI.cs] using hj)
  rw [show (258 : Nat) + j = 0 + 1 * 257 + (j + 1) by omega]
  exact this

set_option maxRecDepth 100000 in
set_option maxHeartbeats 4000000 in
theorem jworks_any (w : World) : Calls Try.prog 7 #[] w fun e w' => e = .returned (.bool true) ∧ Below w.heap.size w w' := by
  go_enter Try.func7, Try.ntmps7
  go_wp2_with fail
  refine (jl_begin w).mono ?_
  rintro e w1 ⟨g, gj, rfl, h1, hgj⟩
  generalize hN : w.heap.size = N at *
  go_wp2_with ((with_reducible refine at_alloc 30 ?_); refine wpList_alloc_rowV rfl 30 rfl lc0 Try.zeroL ?_)
  intro w2 hl2 hb2 hs2
  have h2 := h1.add hb2 (Nat.le_refl _) (by omega)
  have hN1 : N ≤ w1.heap.size := h1.size
  generalize hG3 : w1.heap.size = G3 at *
  go_wp2_with ((with_reducible refine at_store 30 ?_); refine store_lay rfl _ _ rfl G3 3 2 2 2 5 6 8 10 12 13 25 28 6 12 rfl rfl hl2 rfl ?_)
  intro w3 hl3 hg3 hs3
  have h3 := h2.put (by simp) hN1 (by omega) hg3
  have cT := hl3.cell (i := 5) rfl
  have H3 := Lib.hid h3
  have HL3 := Lib.hid hl3
  clear h1 hl2 hb2 h2 hg3 h3 hl3
  go_wp2_with fail
  have hrp : RowV (w3.alloc (.cells #[.int .i64 2, .int .u8 7, .int .i64 6, .int .u8 9] 64)) w3.heap.size 64 (puts puts0) := RowV.new w3 _ _
  have hb4 : Below w3.heap.size w3 (w3.alloc (.cells #[.int .i64 2, .int .u8 7, .int .i64 6, .int .u8 9] 64)) := (Below.refl _ _).alloc (Nat.le_refl _) _
  have hz3 : w3.heap.size = G3 + 1 := by omega
  rw [hz3] at hrp
  generalize w3.alloc (.cells #[.int .i64 2, .int .u8 7, .int .i64 6, .int .u8 9] 64) = w4 at *
  refine (jlist_any w4 w4.heap.size _ 2 2 puts0 (LiesV.of_row hrp) rfl (Nat.le_refl _) (by omega)).mono ?_
  rintro e w5 ⟨A5, c5, rfl, hc5, hown, hb5⟩
  rw [puts0_chi] at hown
  obtain ⟨gc, cap, hv, hcap, _, hgc1, hgc2⟩ := own_form hown (by omega)
  injection hv with hv1 hv2 hv3
  subst hv1 hv3
  have hlc : LiesV w5 w5.heap.size (some ⟨gc, 0, none⟩) (chis c0L) := LiesV.of_own2 hown
  have hbb := below_seq hb4 hb5
  have H5 := Lib.hid ((H3.out.below hb4).add hb5 hgc1 hgc2)
  have HL5 := Lib.hid (HL3.out.below HL3.out.lt hbb)
  have HC5 := Lib.hid hlc
  have hz5 : G3 + 1 < w5.heap.size := by have := hb5.size; have := hb4.size; have := hrp.lt; omega
  clear H3 HL3 hrp hb4 hb5 hown hlc hbb hc5 hs3 hs2 cT hz3
  go_wp2_with fail
  refine (jl_commit (n := 2) H5.out new_fit (by decide) HC5.out (fun _ a ha => by injection ha with ha; subst ha; simp) rfl hcap (by omega)).mono ?_
  rintro e w6 ⟨rfl, h6, k6⟩
  rw [commitV0] at h6 ⊢
  simp only at h6 ⊢
  have H6 := Lib.hid h6
  have HL6 := Lib.hid (k6.row HL5.out (by simp))
  have HC6 := Lib.hid (k6.lies HC5.out (fun a ha => by injection ha with ha; subst ha; simp))
  have hz6 : G3 + 1 < w6.heap.size := Nat.lt_of_lt_of_le hz5 k6.size
  clear h6 k6 H5 HL5 HC5 hz5
  go_wp2_with fail
  refine (jl_steps H6.out).mono ?_
  rintro e w6' ⟨rfl, hw⟩
  rw [hw, commit0.2.2.1]
  clear hw
  generalize hG7 : w6.heap.size = G7 at *
  go_wp2_with (first
    | ((with_reducible refine at_build 66 ?_); refine wpList_build_to rfl 66 _ rfl (ChI.cs (0, zeroSec)) (by rw [Array.toList_map]; exact builtCh0 0) ?_)
    | ((with_reducible refine at_buildSlice 33 ?_); refine wpList_buildSlice_oneV rfl 33 66 _ rfl (ChI.cs (0, zeroSec)) rfl Try.underlying33 Try.infoCh (ChI.cs_length _) (by decide) (by decide) ?_))
  intro w7 hr7 hb7 hs7
  subst hG7
  have H7 := Lib.hid (H6.out.add hb7 (Nat.le_refl _) hr7.lt)
  have hl7 : LiesV w7 w7.heap.size (some ⟨w6.heap.size, 0, none⟩) (chis [(0, zeroSec)]) := by
    have := LiesV.of_row hr7
    simpa [chis] using this
  have HL7 := Lib.hid (HL6.out.below HL6.out.lt hb7)
  have HC7 := Lib.hid ((HC6.out.below hb7).le hb7.size)
  have hz7 : G3 + 1 < w7.heap.size := by omega
  have HN7 := Lib.hid hl7
  clear hr7 hb7 hs7 H6 HL6 HC6 hz6 hl7
  generalize w6.heap.size = G7 at *
  go_wp2_with fail
  refine (jl_commit (n := 1) (l := [(0, zeroSec)]) H7.out (Fit.mono commit0.2.2.2 (Nat.le_refl 23)) (by decide) HN7.out (fun _ a ha => by injection ha with ha; subst ha; simp) rfl (Nat.le_refl _) (by omega)).mono ?_
  rintro e w8 ⟨rfl, h8, k8⟩
  rw [commitV1] at h8 ⊢
  simp only at h8 ⊢
  have H8 := Lib.hid h8
  have HL8 := Lib.hid (k8.row HL7.out (by simp))
  have HC8 := Lib.hid (k8.lies HC7.out (fun a ha => by injection ha with ha; subst ha; simp))
  have hz8 : G3 + 1 < w8.heap.size := Nat.lt_of_lt_of_le hz7 k8.size
  clear h8 k8 H7 HL7 HC7 HN7 hz7
  go_wp2_with fail
  refine (jl_check (l := []) (n := 0) H8.out (LiesV.nil _ w8.heap.size _) (Nat.le_refl _) rfl (Nat.le_refl _) (by omega)).mono ?_
  rintro e w9 ⟨rfl, hb9⟩
  rw [check_nil]
  have H9 := Lib.hid (H8.out.below hb9)
  have HL9 := Lib.hid (HL8.out.below HL8.out.lt hb9)
  have HC9 := Lib.hid ((HC8.out.below hb9).le hb9.size)
  have hz9 : G3 + 1 < w9.heap.size := Nat.lt_of_lt_of_le hz8 hb9.size
  clear hb9 H8 HL8 HC8 hz8
  go_wp2_with fail
  refine (jl_recover H9.out commit0.2.1.up commit0.2.2.2 (by decide)).mono ?_
  rintro e w10 ⟨rfl, h10, k10⟩
  rw [recover0.1, recover0.2.1]
  have H10 : Hid (JL w N g gj _ w10 d2W) := h10
  have HL10 := Lib.hid (k10.row HL9.out (by simp))
  have HC10 := Lib.hid (k10.lies HC9.out (fun a ha => by injection ha with ha; subst ha; simp))
  have hz10 : G3 + 1 < w10.heap.size := Nat.lt_of_lt_of_le hz9 k10.size
  clear h10 k10 H9 HL9 HC9 hz9
  go_wp2_with fail
  refine (jhead_any w10 _ _ 2 c5 c0L HC10.out rfl (Nat.le_refl _) (by omega)).mono ?_
  rintro e w11 ⟨rfl, hb11⟩
  go_wp2_with fail
  refine (jtargets_any w11 _).mono ?_
  rintro e w12 ⟨v, rfl, hv, hb12⟩
  rw [targets0] at hv ⊢
  obtain ⟨At, ct, rfl, hlt⟩ := hv
  obtain ⟨bt, ot, rfl, hbt, hct⟩ := hlt.at_ (i := 1) (v := iv 6) rfl
  have hbb := below_seq hb11 hb12
  have H12 := Lib.hid (H10.out.below hbb)
  have HL12 := Lib.hid (HL10.out.below HL10.out.lt hbb)
  have HC12 := Lib.hid ((HC10.out.below hbb).le hbb.size)
  have hz12 : G3 + 1 < w12.heap.size := Nat.lt_of_lt_of_le hz10 hbb.size
  have HT12 := Lib.hid hct
  clear hb11 hb12 hbb H10 HL10 HC10 hz10 hlt hct
  have cT := HL12.out.cell (i := 5) rfl
  simp only [Option.isSome_some]
  go_wp2_with fail
  clear cT
  refine (jl_read (x := 6) H12.out recover0.2.2.1.up recover0.2.2.2 (by omega)).mono ?_
  rintro e w13 ⟨rfl, hb13⟩
  rw [look0]
  have H13 := Lib.hid (H12.out.below hb13)
  have HL13 := Lib.hid (HL12.out.below HL12.out.lt hb13)
  have HC13 := Lib.hid ((HC12.out.below hb13).le hb13.size)
  have HT13 := Lib.hid ((hb13.cell (p := ⟨bt, ot + 1, none⟩) hbt).trans HT12.out)
  have hbt13 : bt < w13.heap.size := Nat.lt_of_lt_of_le hbt hb13.size
  have hz13 : G3 + 1 < w13.heap.size := Nat.lt_of_lt_of_le hz12 hb13.size
  clear hb13 H12 HL12 HC12 HT12 hbt hz12
  go_wp2_with ((with_reducible refine at_alloc 23 ?_); refine alloc_sec rfl rfl ?_)
  intro w14 hr14 hb14 hs14
  have H14 := Lib.hid (H13.out.add hb14 (Nat.le_refl _) hr14.lt)
  have hgc14 : gc < w13.heap.size := by obtain ⟨_, _, h⟩ := H13.out.jr; exact (h gc (by simp)).2
  have HL14 := Lib.hid (HL13.out.below HL13.out.lt hb14)
  have HC14 := Lib.hid ((HC13.out.below hb14).le hb14.size)
  have HT14 := Lib.hid ((hb14.cell (p := ⟨bt, ot + 1, none⟩) hbt13).trans HT13.out)
  clear hb14 H13 HL13 HC13 HT13
  have hz14 : G3 + 1 < w13.heap.size := hz13
  generalize hG14 : w13.heap.size = G14 at *
  have hG14' : G14 < w14.heap.size := by omega
  go_wp2_with ((with_reducible refine at_store 23 ?_); refine store_sec rfl _ _ rfl G14 (fillSec 9) rfl rfl hr14 (Sec.cs_length _) ?_)
  intro w15 hr15 hg15 hs15
  have H15 := Lib.hid (H14.out.put (by simp) (by omega) (by omega) hg15)
  have HL15 := Lib.hid (HL14.out.keep hg15 (fun e => by injection e with e; omega))
  have HC15 : Hid (LiesV w15 w15.heap.size (some ⟨gc, 0, none⟩) (chis c0L)) := by
    have hc := HC14.out
    intro hx
    obtain ⟨b, o, e, hb, hcell⟩ := hc hx
    injection e with e
    injection e with e1 e2
    subst e1 e2
    refine ⟨gc, 0, rfl, by omega, fun i v hv => ?_⟩
    rw [World.cell?_of_block (hg15.block gc hb (fun e => by injection e with e; omega))]
    exact hcell i v hv
  have HT15 : Hid (w15.cell? ⟨bt, ot + 1, none⟩ = some (iv 6)) := by
    show _ = _
    rw [World.cell?_of_block (a := ⟨bt, ot + 1, none⟩) (hg15.block bt (by omega) (fun e => by injection e with e; omega))]
    exact HT14.out
  have hbt15 : bt < w15.heap.size := by omega
  have hz15 : G3 + 1 < w15.heap.size := by omega
  clear hr14 hg15 H14 HL14 HC14 HT14
  go_wp2_with ((with_reducible refine at_build 23 ?_); refine wpList_build_to rfl 23 _ rfl zeroSec.cs (by rw [Array.toList_map]; exact Try.built0) ?_)
  refine (jtargets_any w15 zeroSec).mono ?_
  rintro e w16 ⟨v, rfl, hv, hb16⟩
  rw [targets_zero] at hv ⊢
  have hv' : v = .slice none 0 0 := hv
  subst hv'
  have H16 := Lib.hid (H15.out.below hb16)
  have HL16 := Lib.hid (HL15.out.below HL15.out.lt hb16)
  have HC16 := Lib.hid ((HC15.out.below hb16).le hb16.size)
  have c6 : w16.cell? ⟨bt, ot + 1, none⟩ = some (.int .i64 6) := (hb16.cell (p := ⟨bt, ot + 1, none⟩) hbt15).trans HT15.out
  have hr16 := hr15.below hr15.lt hb16
  have hrc := c0_sec HC16.out
  have cT := HL16.out.cell (i := 5) rfl
  clear hb16 H15 HL15 HC15 HT15 hr15 hv
  simp only [Option.isSome_none]
  go_wp2_with fail
  have hS0 : RowV w16.drew G3 30 (lcs 3 2 2 2 5 6 8 10 12 13 25 28 6 12) ∧ RowV w16.drew G14 23 (fillSec 9).cs ∧ w16.drew.rangeAt gc 258 (fillSec 9).cs := ⟨HL16.out.drew, hr16.drew, hrc⟩
  have HD : Hid (JL w N g gj _ w16.drew d2W) := H16.out.below (Below.refl _ _).drew
  have HCd : Hid (LiesV w16.drew w16.drew.heap.size (some ⟨gc, 0, none⟩) (chis c0L)) := HC16.out
  have c6d : w16.drew.cell? ⟨bt, ot + 1, none⟩ = some (.int .i64 6) := c6
  refine wp_region_held_drew (S := fun W => RowV W G3 30 (lcs 3 2 2 2 5 6 8 10 12 13 25 28 6 12) ∧ RowV W G14 23 (fillSec 9).cs ∧ W.rangeAt gc 258 (fillSec 9).cs) (by kernel_rfl) hS0 (fun hHeld => ?_)
  clear H16 HL16 HC16 c6 hr16 hrc cT
  generalize w16.drew = wd at *
  refine wpAnyH_take (i := 0) (oi := ⟨_, _, _, _, _, _⟩) (v := ?_) rfl (by kernel_rfl) (by kernel_rfl) (by kernel_rfl) (fun _ _ _ h => h) (Or.inl ⟨by rfl, ?_⟩) (by assumption) ?_
  rotate_left
  · rintro W ⟨s0, s1, s2⟩; go_simp; try with_reducible rfl
  try simp only [Act.put, List.setIfInBounds_toArray, List.set_cons_zero, List.set_cons_succ]
  refine wpAnyH_take (i := 1) (oi := ⟨_, _, _, _, _, _⟩) (v := ?_) rfl (by kernel_rfl) (by kernel_rfl) (by kernel_rfl) (fun _ _ _ h => h) (Or.inl ⟨by rfl, ?_⟩) (by assumption) ?_
  rotate_left
  · rintro W ⟨s0, s1, s2⟩; go_simp; try with_reducible rfl
  try simp only [Act.put, List.setIfInBounds_toArray, List.set_cons_zero, List.set_cons_succ]
  refine wpAnyH_take (i := 2) (oi := ⟨_, _, _, _, _, _⟩) (v := ?_) rfl (by kernel_rfl) (by kernel_rfl) (by kernel_rfl) (fun _ _ _ h => h) (Or.inl ⟨by rfl, ?_⟩) (by assumption) ?_
  rotate_left
  · rintro W ⟨s0, s1, s2⟩; go_simp; try with_reducible rfl
  try simp only [Act.put, List.setIfInBounds_toArray, List.set_cons_zero, List.set_cons_succ]
  refine wpAnyH_take (i := 3) (oi := ⟨_, _, _, _, _, _⟩) (v := ?_) rfl (by kernel_rfl) (by kernel_rfl) (by kernel_rfl) (fun _ _ _ h => h) (Or.inl ⟨by rfl, ?_⟩) (by assumption) ?_
  rotate_left
  · rintro W ⟨s0, s1, s2⟩; go_simp; try with_reducible rfl
  try simp only [Act.put, List.setIfInBounds_toArray, List.set_cons_zero, List.set_cons_succ]
  refine wpAnyH_take (i := 4) (oi := ⟨_, _, _, _, _, _⟩) (v := ?_) rfl (by kernel_rfl) (by kernel_rfl) (by kernel_rfl) (fun _ _ _ h => h) (Or.inl ⟨by rfl, ?_⟩) (by assumption) ?_
  rotate_left
  · rintro W ⟨s0, s1, s2⟩; go_simp; try with_reducible rfl
  try simp only [Act.put, List.setIfInBounds_toArray, List.set_cons_zero, List.set_cons_succ]
  refine wpAnyH_ready (rs := [5]) (by kernel_rfl) (by simp) ?_
  refine AllReadyH.cons (o := ⟨_, _, _, _, _, _⟩) rfl (fun K hK => ?_) AllReadyH.nil
  go_simp
  refine (jl_cost (n := 2) HD.out (by omega)).mono ?_
  rintro e v1 ⟨rfl, hv1⟩
  rw [hv1]
  clear hv1
  rw [show 2 * ((2 : Nat) : Int) + 12 + 7 = 23 from rfl]
  try simp only []
  refine hK.out _ _ hS0 (fun hHeld => ?_)
  clear hK K
  try simp only [Act.put, List.setIfInBounds_toArray, List.set_cons_zero, List.set_cons_succ]
  refine wpAnyH_take (i := 6) (oi := ⟨_, _, _, _, _, _⟩) (v := ?_) rfl (by kernel_rfl) (by kernel_rfl) (by kernel_rfl) (fun _ _ _ h => h) (Or.inl ⟨by rfl, ?_⟩) (by assumption) ?_
  rotate_left
  · rintro W ⟨s0, s1, s2⟩; go_simp; try with_reducible rfl
  try simp only [Act.put, List.setIfInBounds_toArray, List.set_cons_zero, List.set_cons_succ]
  refine wpAnyH_take (i := 7) (oi := ⟨_, _, _, _, _, _⟩) (v := ?_) rfl (by kernel_rfl) (by kernel_rfl) (by kernel_rfl) (fun _ _ _ h => h) (Or.inl ⟨by rfl, ?_⟩) (by assumption) ?_
  rotate_left
  · rintro W ⟨s0, s1, s2⟩; go_simp; try with_reducible rfl
  try simp only [Act.put, List.setIfInBounds_toArray, List.set_cons_zero, List.set_cons_succ]
  refine wpAnyH_take (i := 8) (oi := ⟨_, _, _, _, _, _⟩) (v := ?_) rfl (by kernel_rfl) (by kernel_rfl) (by kernel_rfl) (fun _ _ _ h => h) (Or.inl ⟨by rfl, ?_⟩) (by assumption) ?_
  rotate_left
  · rintro W ⟨s0, s1, s2⟩; go_simp; try with_reducible rfl
  try simp only [Act.put, List.setIfInBounds_toArray, List.set_cons_zero, List.set_cons_succ]
  refine wpAnyH_take (i := 9) (oi := ⟨_, _, _, _, _, _⟩) (v := ?_) rfl (by kernel_rfl) (by kernel_rfl) (by kernel_rfl) (fun _ _ _ h => h) (Or.inl ⟨by rfl, ?_⟩) (by assumption) ?_
  rotate_left
  · rintro W ⟨s0, s1, s2⟩; go_simp; try with_reducible rfl
  try simp only [Act.put, List.setIfInBounds_toArray, List.set_cons_zero, List.set_cons_succ]
  refine wpAnyH_take (i := 10) (oi := ⟨_, _, _, _, _, _⟩) (v := ?_) rfl (by kernel_rfl) (by kernel_rfl) (by kernel_rfl) (fun _ _ _ h => h) (Or.inl ⟨by rfl, ?_⟩) (by assumption) ?_
  rotate_left
  · rintro W ⟨s0, s1, s2⟩; go_simp; try with_reducible rfl
  try simp only [Act.put, List.setIfInBounds_toArray, List.set_cons_zero, List.set_cons_succ]
  refine wpAnyH_take (i := 11) (oi := ⟨_, _, _, _, _, _⟩) (v := ?_) rfl (by kernel_rfl) (by kernel_rfl) (by kernel_rfl) (fun _ _ _ h => h) (Or.inl ⟨by rfl, ?_⟩) (by assumption) ?_
  rotate_left
  · rintro W ⟨s0, s1, s2⟩; go_simp; try with_reducible rfl
  try simp only [Act.put, List.setIfInBounds_toArray, List.set_cons_zero, List.set_cons_succ]
  refine wpAnyH_take (i := 12) (oi := ⟨_, _, _, _, _, _⟩) (v := ?_) rfl (by kernel_rfl) (by kernel_rfl) (by kernel_rfl) (fun _ _ _ h => h) (Or.inl ⟨by rfl, ?_⟩) (by assumption) ?_
  rotate_left
  · rintro W ⟨s0, s1, s2⟩; go_simp; try with_reducible rfl
  try simp only [Act.put, List.setIfInBounds_toArray, List.set_cons_zero, List.set_cons_succ]
  refine wpAnyH_take (i := 13) (oi := ⟨_, _, _, _, _, _⟩) (v := ?_) rfl (by kernel_rfl) (by kernel_rfl) (by kernel_rfl) (fun _ _ _ h => h) (Or.inl ⟨by rfl, ?_⟩) (by assumption) ?_
  rotate_left
  · rintro W ⟨s0, s1, s2⟩; go_simp; try with_reducible rfl
  try simp only [Act.put, List.setIfInBounds_toArray, List.set_cons_zero, List.set_cons_succ]
  refine wpAnyH_take (i := 14) (oi := ⟨_, _, _, _, _, _⟩) (v := ?_) rfl (by kernel_rfl) (by kernel_rfl) (by kernel_rfl) (fun _ _ _ h => h) (Or.inl ⟨by rfl, ?_⟩) (by assumption) ?_
  rotate_left
  · rintro W ⟨s0, s1, s2⟩; go_simp; try with_reducible rfl
  try simp only [Act.put, List.setIfInBounds_toArray, List.set_cons_zero, List.set_cons_succ]
  refine wpAnyH_take (i := 15) (oi := ⟨_, _, _, _, _, _⟩) (v := ?_) rfl (by kernel_rfl) (by kernel_rfl) (by kernel_rfl) (fun _ _ _ h => h) (Or.inl ⟨by rfl, ?_⟩) (by assumption) ?_
  rotate_left
  · rintro W ⟨s0, s1, s2⟩; go_simp; try with_reducible rfl
  try simp only [Act.put, List.setIfInBounds_toArray, List.set_cons_zero, List.set_cons_succ]
  refine wpAnyH_take (i := 16) (oi := ⟨_, _, _, _, _, _⟩) (v := ?_) rfl (by kernel_rfl) (by kernel_rfl) (by kernel_rfl) (fun _ _ _ h => h) (Or.inl ⟨by rfl, ?_⟩) (by assumption) ?_
  rotate_left
  · rintro W ⟨s0, s1, s2⟩; go_simp; try with_reducible rfl
  try simp only [Act.put, List.setIfInBounds_toArray, List.set_cons_zero, List.set_cons_succ]
  refine wpAnyH_take (i := 17) (oi := ⟨_, _, _, _, _, _⟩) (v := ?_) rfl (by kernel_rfl) (by kernel_rfl) (by kernel_rfl) (fun _ _ _ h => h) (Or.inl ⟨by rfl, ?_⟩) (by assumption) ?_
  rotate_left
  · rintro W ⟨s0, s1, s2⟩; go_simp; try with_reducible rfl
  try simp only [Act.put, List.setIfInBounds_toArray, List.set_cons_zero, List.set_cons_succ]
  refine wpAnyH_take (i := 18) (oi := ⟨_, _, _, _, _, _⟩) (v := ?_) rfl (by kernel_rfl) (by kernel_rfl) (by kernel_rfl) (fun _ _ _ h => h) (Or.inl ⟨by rfl, ?_⟩) (by assumption) ?_
  rotate_left
  · rintro W ⟨s0, s1, s2⟩; go_simp; try with_reducible rfl
  try simp only [Act.put, List.setIfInBounds_toArray, List.set_cons_zero, List.set_cons_succ]
  refine wpAnyH_take (i := 19) (oi := ⟨_, _, _, _, _, _⟩) (v := ?_) rfl (by kernel_rfl) (by kernel_rfl) (by kernel_rfl) (fun _ _ _ h => h) (Or.inl ⟨by rfl, ?_⟩) (by assumption) ?_
  rotate_left
  · rintro W ⟨s0, s1, s2⟩; go_simp; try with_reducible rfl
  try simp only [Act.put, List.setIfInBounds_toArray, List.set_cons_zero, List.set_cons_succ]
  refine wpAnyH_take (i := 20) (oi := ⟨_, _, _, _, _, _⟩) (v := ?_) rfl (by kernel_rfl) (by kernel_rfl) (by kernel_rfl) (fun _ _ _ h => h) (Or.inl ⟨by rfl, ?_⟩) (by assumption) ?_
  rotate_left
  · rintro W ⟨s0, s1, s2⟩; go_simp; try with_reducible rfl
  try simp only [Act.put, List.setIfInBounds_toArray, List.set_cons_zero, List.set_cons_succ]
  refine wpAnyH_take (i := 21) (oi := ⟨_, _, _, _, _, _⟩) (v := ?_) rfl (by kernel_rfl) (by kernel_rfl) (by kernel_rfl) (fun _ _ _ h => h) (Or.inl ⟨by rfl, ?_⟩) (by assumption) ?_
  rotate_left
  · rintro W ⟨s0, s1, s2⟩; go_simp; try with_reducible rfl
  try simp only [Act.put, List.setIfInBounds_toArray, List.set_cons_zero, List.set_cons_succ]
  refine wpAnyH_take (i := 22) (oi := ⟨_, _, _, _, _, _⟩) (v := ?_) rfl (by kernel_rfl) (by kernel_rfl) (by kernel_rfl) (fun _ _ _ h => h) (Or.inl ⟨by rfl, ?_⟩) (by assumption) ?_
  rotate_left
  · rintro W ⟨s0, s1, s2⟩; go_simp; try with_reducible rfl
  try simp only [Act.put, List.setIfInBounds_toArray, List.set_cons_zero, List.set_cons_succ]
  refine wpAnyH_take (i := 23) (oi := ⟨_, _, _, _, _, _⟩) (v := ?_) rfl (by kernel_rfl) (by kernel_rfl) (by kernel_rfl) (fun _ _ _ h => h) (Or.inl ⟨by rfl, ?_⟩) (by assumption) ?_
  rotate_left
  · rintro W ⟨s0, s1, s2⟩; go_simp; try with_reducible rfl
  try simp only [Act.put, List.setIfInBounds_toArray, List.set_cons_zero, List.set_cons_succ]
  refine wpAnyH_take (i := 24) (oi := ⟨_, _, _, _, _, _⟩) (v := ?_) rfl (by kernel_rfl) (by kernel_rfl) (by kernel_rfl) (fun _ _ _ h => h) (Or.inl ⟨by rfl, ?_⟩) (by assumption) ?_
  rotate_left
  · rintro W ⟨s0, s1, s2⟩; go_simp; try with_reducible rfl
  try simp only [Act.put, List.setIfInBounds_toArray, List.set_cons_zero, List.set_cons_succ]
  refine wpAnyH_take (i := 25) (oi := ⟨_, _, _, _, _, _⟩) (v := ?_) rfl (by kernel_rfl) (by kernel_rfl) (by kernel_rfl) (fun _ _ _ h => h) (Or.inl ⟨by rfl, ?_⟩) (by assumption) ?_
  rotate_left
  · rintro W ⟨s0, s1, s2⟩; go_simp; try with_reducible rfl
  try simp only [Act.put, List.setIfInBounds_toArray, List.set_cons_zero, List.set_cons_succ]
  refine wpAnyH_take (i := 26) (oi := ⟨_, _, _, _, _, _⟩) (v := ?_) rfl (by kernel_rfl) (by kernel_rfl) (by kernel_rfl) (fun _ _ _ h => h) (Or.inl ⟨by rfl, ?_⟩) (by assumption) ?_
  rotate_left
  · rintro W ⟨s0, s1, s2⟩; go_simp; try with_reducible rfl
  try simp only [Act.put, List.setIfInBounds_toArray, List.set_cons_zero, List.set_cons_succ]
  refine wpAnyH_take (i := 27) (oi := ⟨_, _, _, _, _, _⟩) (v := ?_) rfl (by kernel_rfl) (by kernel_rfl) (by kernel_rfl) (fun _ _ _ h => h) (Or.inl ⟨by rfl, ?_⟩) (by assumption) ?_
  rotate_left
  · rintro W ⟨s0, s1, s2⟩; go_simp; try with_reducible rfl
  try simp only [Act.put, List.setIfInBounds_toArray, List.set_cons_zero, List.set_cons_succ]
  refine wpAnyH_take (i := 28) (oi := ⟨_, _, _, _, _, _⟩) (v := ?_) rfl (by kernel_rfl) (by kernel_rfl) (by kernel_rfl) (fun _ _ _ h => h) (Or.inl ⟨by rfl, ?_⟩) (by assumption) ?_
  rotate_left
  · rintro W ⟨s0, s1, s2⟩; go_simp; try with_reducible rfl
  try simp only [Act.put, List.setIfInBounds_toArray, List.set_cons_zero, List.set_cons_succ]
  refine wpAnyH_take (i := 29) (oi := ⟨_, _, _, _, _, _⟩) (v := ?_) rfl (by kernel_rfl) (by kernel_rfl) (by kernel_rfl) (fun _ _ _ h => h) (Or.inl ⟨by rfl, ?_⟩) (by assumption) ?_
  rotate_left
  · rintro W ⟨s0, s1, s2⟩; go_simp; try with_reducible rfl
  try simp only [Act.put, List.setIfInBounds_toArray, List.set_cons_zero, List.set_cons_succ]
  refine wpAnyH_take (i := 30) (oi := ⟨_, _, _, _, _, _⟩) (v := ?_) rfl (by kernel_rfl) (by kernel_rfl) (by kernel_rfl) (fun _ _ _ h => h) (Or.inl ⟨by rfl, ?_⟩) (by assumption) ?_
  rotate_left
  · rintro W ⟨s0, s1, s2⟩; go_simp; try with_reducible rfl
  try simp only [Act.put, List.setIfInBounds_toArray, List.set_cons_zero, List.set_cons_succ]
  refine wpAnyH_take (i := 31) (oi := ⟨_, _, _, _, _, _⟩) (v := ?_) rfl (by kernel_rfl) (by kernel_rfl) (by kernel_rfl) (fun _ _ _ h => h) (Or.inl ⟨by rfl, ?_⟩) (by assumption) ?_
  rotate_left
  · rintro W ⟨s0, s1, s2⟩; go_simp; try with_reducible rfl
  try simp only [Act.put, List.setIfInBounds_toArray, List.set_cons_zero, List.set_cons_succ]
  refine wpAnyH_take (i := 32) (oi := ⟨_, _, _, _, _, _⟩) (v := ?_) rfl (by kernel_rfl) (by kernel_rfl) (by kernel_rfl) (fun _ _ _ h => h) (Or.inl ⟨by rfl, ?_⟩) (by assumption) ?_
  rotate_left
  · rintro W ⟨s0, s1, s2⟩; go_simp; try with_reducible rfl
  try simp only [Act.put, List.setIfInBounds_toArray, List.set_cons_zero, List.set_cons_succ]
  refine wpAnyH_take (i := 33) (oi := ⟨_, _, _, _, _, _⟩) (v := ?_) rfl (by kernel_rfl) (by kernel_rfl) (by kernel_rfl) (fun _ _ _ h => h) (Or.inl ⟨by rfl, ?_⟩) (by assumption) ?_
  rotate_left
  · rintro W ⟨s0, s1, s2⟩; go_simp; try with_reducible rfl
  try simp only [Act.put, List.setIfInBounds_toArray, List.set_cons_zero, List.set_cons_succ]
  refine wpAnyH_take (i := 34) (oi := ⟨_, _, _, _, _, _⟩) (v := .pointer (some ⟨bt, ot + 1, none⟩)) rfl (by kernel_rfl) (by kernel_rfl) (by kernel_rfl) (fun _ _ _ h => h) (Or.inl ⟨by rfl, ?_⟩) (by assumption) ?_
  · rintro W ⟨s0, s1, s2⟩; go_simp; try with_reducible rfl
  try simp only [Act.put, List.setIfInBounds_toArray, List.set_cons_zero, List.set_cons_succ]
  refine wpAnyH_take (i := 36) (oi := ⟨_, _, _, _, _, _⟩) (v := ?_) rfl (by kernel_rfl) (by kernel_rfl) (by kernel_rfl) (fun _ _ _ h => h) (Or.inl ⟨by rfl, ?_⟩) (by assumption) ?_
  rotate_left
  · rintro W ⟨s0, s1, s2⟩; go_simp; try with_reducible rfl
  try simp only [Act.put, List.setIfInBounds_toArray, List.set_cons_zero, List.set_cons_succ]
  refine wpAnyH_take (i := 37) (oi := ⟨_, _, _, _, _, _⟩) (v := .int .i64 6) rfl (by kernel_rfl) (by kernel_rfl) (by kernel_rfl) (fun _ _ _ h => h) (Or.inl ⟨by rfl, ?_⟩) (by assumption) ?_
  · rintro W ⟨s0, s1, s2⟩; exact exec_load_int (.tmp 102) rfl G3 5 rfl 6 (s0.cell (i := 5) rfl)
  try simp only [Act.put, List.setIfInBounds_toArray, List.set_cons_zero, List.set_cons_succ]
  refine wpAnyH_ready (rs := [35]) (by kernel_rfl) (by simp) ?_
  refine AllReadyH.cons (o := ⟨_, _, _, _, _, _⟩) rfl (fun K hK => ?_) AllReadyH.nil
  go_simp
  refine hK.out _ _ hS0 (fun hHeld => ?_)
  clear hK K
  try simp only [Act.put, List.setIfInBounds_toArray, List.set_cons_zero, List.set_cons_succ]
  refine wpAnyH_take (i := 38) (oi := ⟨_, _, _, _, _, _⟩) (v := ?_) rfl (by kernel_rfl) (by kernel_rfl) (by kernel_rfl) (fun _ _ _ h => h) (Or.inl ⟨by rfl, ?_⟩) (by assumption) ?_
  rotate_left
  · rintro W ⟨s0, s1, s2⟩; go_simp; try with_reducible rfl
  try simp only [Act.put, List.setIfInBounds_toArray, List.set_cons_zero, List.set_cons_succ]
  refine wpAnyH_take (i := 39) (oi := ⟨_, _, _, _, _, _⟩) (v := ?_) rfl (by kernel_rfl) (by kernel_rfl) (by kernel_rfl) (fun _ _ _ h => h) (Or.inl ⟨by rfl, ?_⟩) (by assumption) ?_
  rotate_left
  · rintro W ⟨s0, s1, s2⟩; go_simp; try with_reducible rfl
  try simp only [Act.put, List.setIfInBounds_toArray, List.set_cons_zero, List.set_cons_succ]
  refine wpAnyH_take (i := 40) (oi := ⟨_, _, _, _, _, _⟩) (v := ?_) rfl (by kernel_rfl) (by kernel_rfl) (by kernel_rfl) (fun _ _ _ h => h) (Or.inl ⟨by rfl, ?_⟩) (by assumption) ?_
  rotate_left
  · rintro W ⟨s0, s1, s2⟩; go_simp; try with_reducible rfl
  try simp only [Act.put, List.setIfInBounds_toArray, List.set_cons_zero, List.set_cons_succ]
  refine wpAnyH_take (i := 41) (oi := ⟨_, _, _, _, _, _⟩) (v := .agg (fillSec 9).cs.toArray) rfl (by kernel_rfl) (by kernel_rfl) (by kernel_rfl) (fun _ _ _ h => h) (Or.inl ⟨by rfl, ?_⟩) (by assumption) ?_
  · rintro W ⟨s0, s1, s2⟩; exact exec_load_row 23 (.tmp 14) rfl G14 rfl _ s1 Try.underlying23 rfl (sec_size _)
  try simp only [Act.put, List.setIfInBounds_toArray, List.set_cons_zero, List.set_cons_succ]
  refine wpAnyH_take (i := 42) (oi := ⟨_, _, _, _, _, _⟩) (v := ?_) rfl (by kernel_rfl) (by kernel_rfl) (by kernel_rfl) (fun _ _ _ h => h) (Or.inl ⟨by rfl, ?_⟩) (by assumption) ?_
  rotate_left
  · rintro W ⟨s0, s1, s2⟩; go_simp; try with_reducible rfl
  try simp only [Act.put, List.setIfInBounds_toArray, List.set_cons_zero, List.set_cons_succ]
  refine wpAnyH_take (i := 43) (oi := ⟨_, _, _, _, _, _⟩) (v := .pointer (some ⟨gc, 257, none⟩)) rfl (by kernel_rfl) (by kernel_rfl) (by kernel_rfl) (fun _ _ _ h => h) (Or.inl ⟨by rfl, ?_⟩) (by assumption) ?_
  · rintro W ⟨s0, s1, s2⟩; go_simp; try with_reducible rfl
  try simp only [Act.put, List.setIfInBounds_toArray, List.set_cons_zero, List.set_cons_succ]
  refine wpAnyH_take (i := 44) (oi := ⟨_, _, _, _, _, _⟩) (v := .pointer (some ⟨gc, 258, none⟩)) rfl (by kernel_rfl) (by kernel_rfl) (by kernel_rfl) (fun _ _ _ h => h) (Or.inl ⟨by rfl, ?_⟩) (by assumption) ?_
  · rintro W ⟨s0, s1, s2⟩; go_simp; try with_reducible rfl
  try simp only [Act.put, List.setIfInBounds_toArray, List.set_cons_zero, List.set_cons_succ]
  refine wpAnyH_take (i := 45) (oi := ⟨_, _, _, _, _, _⟩) (v := .agg (fillSec 9).cs.toArray) rfl (by kernel_rfl) (by kernel_rfl) (by kernel_rfl) (fun _ _ _ h => h) (Or.inl ⟨by rfl, ?_⟩) (by assumption) ?_
  · rintro W ⟨s0, s1, s2⟩; exact exec_load_mid 23 (.tmp 110) rfl gc 258 rfl _ _ s2 Try.underlying23 rfl (sec_size _)
  try simp only [Act.put, List.setIfInBounds_toArray, List.set_cons_zero, List.set_cons_succ]
  refine wpAnyH_take (i := 46) (oi := ⟨_, _, _, _, _, _⟩) (v := .bool true) rfl (by kernel_rfl) (by kernel_rfl) (by kernel_rfl) (fun _ _ _ h => h) (Or.inl ⟨by rfl, ?_⟩) (by assumption) ?_
  · rintro W ⟨s0, s1, s2⟩; exact exec_eql_self (.tmp 107) (.tmp 111) 23 rfl (fillSec 9) rfl rfl
  try simp only [Act.put, List.setIfInBounds_toArray, List.set_cons_zero, List.set_cons_succ]
  refine wpAnyH_take (i := 47) (oi := ⟨_, _, _, _, _, _⟩) (v := ?_) rfl (by kernel_rfl) (by kernel_rfl) (by kernel_rfl) (fun _ _ _ h => h) (Or.inl ⟨by rfl, ?_⟩) (by assumption) ?_
  rotate_left
  · rintro W ⟨s0, s1, s2⟩; go_simp; try with_reducible rfl
  try simp only [Act.put, List.setIfInBounds_toArray, List.set_cons_zero, List.set_cons_succ]
  refine wpAnyH_take (i := 48) (oi := ⟨_, _, _, _, _, _⟩) (v := ?_) rfl (by kernel_rfl) (by kernel_rfl) (by kernel_rfl) (fun _ _ _ h => h) (Or.inl ⟨by rfl, ?_⟩) (by assumption) ?_
  rotate_left
  · rintro W ⟨s0, s1, s2⟩; go_simp; try with_reducible rfl
  try simp only [Act.put, List.setIfInBounds_toArray, List.set_cons_zero, List.set_cons_succ]
  refine wpAnyH_take (i := 49) (oi := ⟨_, _, _, _, _, _⟩) (v := ?_) rfl (by kernel_rfl) (by kernel_rfl) (by kernel_rfl) (fun _ _ _ h => h) (Or.inl ⟨by rfl, ?_⟩) (by assumption) ?_
  rotate_left
  · rintro W ⟨s0, s1, s2⟩; go_simp; try with_reducible rfl
  try simp only [Act.put, List.setIfInBounds_toArray, List.set_cons_zero, List.set_cons_succ]
  refine wpAnyH_take (i := 50) (oi := ⟨_, _, _, _, _, _⟩) (v := ?_) rfl (by kernel_rfl) (by kernel_rfl) (by kernel_rfl) (fun _ _ _ h => h) (Or.inl ⟨by rfl, ?_⟩) (by assumption) ?_
  rotate_left
  · rintro W ⟨s0, s1, s2⟩; go_simp; try with_reducible rfl
  try simp only [Act.put, List.setIfInBounds_toArray, List.set_cons_zero, List.set_cons_succ]
  refine wpAnyH_take (i := 51) (oi := ⟨_, _, _, _, _, _⟩) (v := ?_) rfl (by kernel_rfl) (by kernel_rfl) (by kernel_rfl) (fun _ _ _ h => h) (Or.inl ⟨by rfl, ?_⟩) (by assumption) ?_
  rotate_left
  · rintro W ⟨s0, s1, s2⟩; go_simp; try with_reducible rfl
  try simp only [Act.put, List.setIfInBounds_toArray, List.set_cons_zero, List.set_cons_succ]
  refine wpAnyH_take (i := 52) (oi := ⟨_, _, _, _, _, _⟩) (v := ?_) rfl (by kernel_rfl) (by kernel_rfl) (by kernel_rfl) (fun _ _ _ h => h) (Or.inl ⟨by rfl, ?_⟩) (by assumption) ?_
  rotate_left
  · rintro W ⟨s0, s1, s2⟩; go_simp; try with_reducible rfl
  try simp only [Act.put, List.setIfInBounds_toArray, List.set_cons_zero, List.set_cons_succ]
  refine wpAnyH_take (i := 53) (oi := ⟨_, _, _, _, _, _⟩) (v := ?_) rfl (by kernel_rfl) (by kernel_rfl) (by kernel_rfl) (fun _ _ _ h => h) (Or.inl ⟨by rfl, ?_⟩) (by assumption) ?_
  rotate_left
  · rintro W ⟨s0, s1, s2⟩; go_simp; try with_reducible rfl
  try simp only [Act.put, List.setIfInBounds_toArray, List.set_cons_zero, List.set_cons_succ]
  refine wpAnyH_ready (rs := [54]) (by kernel_rfl) (by simp) ?_
  refine AllReadyH.cons (o := ⟨_, _, _, _, _, _⟩) rfl (fun K hK => ?_) AllReadyH.nil
  go_simp
  refine (jl_clean HD.out recover0.2.2.1.up recover0.2.2.2).mono ?_
  rintro e v2 ⟨rfl, hb2⟩
  rw [clean0]
  try simp only []
  have hS2 := And.intro (hS0.1.below hS0.1.lt hb2) (And.intro (hS0.2.1.below hS0.2.1.lt hb2) (c0_sec (HCd.out.below hb2)))
  have HD2 := Lib.hid (HD.out.below hb2)
  have HC2 := Lib.hid ((HCd.out.below hb2).le hb2.size)
  refine hK.out _ _ hS2 (fun hHeld => ?_)
  clear hK K hb2 hS0 HD HCd c6d
  try simp only [Act.put, List.setIfInBounds_toArray, List.set_cons_zero, List.set_cons_succ]
  refine wpAnyH_take (i := 55) (oi := ⟨_, _, _, _, _, _⟩) (v := ?_) rfl (by kernel_rfl) (by kernel_rfl) (by kernel_rfl) (fun _ _ _ h => h) (Or.inl ⟨by rfl, ?_⟩) (by assumption) ?_
  rotate_left
  · rintro W ⟨s0, s1, s2⟩; go_simp; try with_reducible rfl
  try simp only [Act.put, List.setIfInBounds_toArray, List.set_cons_zero, List.set_cons_succ]
  refine wpAnyH_take (i := 56) (oi := ⟨_, _, _, _, _, _⟩) (v := ?_) rfl (by kernel_rfl) (by kernel_rfl) (by kernel_rfl) (fun _ _ _ h => h) (Or.inl ⟨by rfl, ?_⟩) (by assumption) ?_
  rotate_left
  · rintro W ⟨s0, s1, s2⟩; go_simp; try with_reducible rfl
  try simp only [Act.put, List.setIfInBounds_toArray, List.set_cons_zero, List.set_cons_succ]
  refine wpAnyH_take (i := 57) (oi := ⟨_, _, _, _, _, _⟩) (v := ?_) rfl (by kernel_rfl) (by kernel_rfl) (by kernel_rfl) (fun _ _ _ h => h) (Or.inl ⟨by rfl, ?_⟩) (by assumption) ?_
  rotate_left
  · rintro W ⟨s0, s1, s2⟩; go_simp; try with_reducible rfl
  try simp only [Act.put, List.setIfInBounds_toArray, List.set_cons_zero, List.set_cons_succ]
  refine wpAnyH_ready (rs := [58]) (by kernel_rfl) (by simp) ?_
  refine AllReadyH.cons (o := ⟨_, _, _, _, _, _⟩) rfl (fun K hK => ?_) AllReadyH.nil
  go_simp
  refine (jl_waits HD2.out).mono ?_
  rintro e v3 ⟨rfl, hv3⟩
  rw [hv3, recover0.2.2.1.wait]
  clear hv3
  try simp only []
  refine hK.out _ _ hS2 (fun hHeld => ?_)
  clear hK K
  try simp only [Act.put, List.setIfInBounds_toArray, List.set_cons_zero, List.set_cons_succ]
  refine wpAnyH_take (i := 59) (oi := ⟨_, _, _, _, _, _⟩) (v := ?_) rfl (by kernel_rfl) (by kernel_rfl) (by kernel_rfl) (fun _ _ _ h => h) (Or.inl ⟨by rfl, ?_⟩) (by assumption) ?_
  rotate_left
  · rintro W ⟨s0, s1, s2⟩; go_simp; try with_reducible rfl
  try simp only [Act.put, List.setIfInBounds_toArray, List.set_cons_zero, List.set_cons_succ]
  refine wpAnyH_take (i := 60) (oi := ⟨_, _, _, _, _, _⟩) (v := ?_) rfl (by kernel_rfl) (by kernel_rfl) (by kernel_rfl) (fun _ _ _ h => h) (Or.inl ⟨by rfl, ?_⟩) (by assumption) ?_
  rotate_left
  · rintro W ⟨s0, s1, s2⟩; go_simp; try with_reducible rfl
  try simp only [Act.put, List.setIfInBounds_toArray, List.set_cons_zero, List.set_cons_succ]
  refine wpAnyH_take (i := 61) (oi := ⟨_, _, _, _, _, _⟩) (v := ?_) rfl (by kernel_rfl) (by kernel_rfl) (by kernel_rfl) (fun _ _ _ h => h) (Or.inl ⟨by rfl, ?_⟩) (by assumption) ?_
  rotate_left
  · rintro W ⟨s0, s1, s2⟩; go_simp; try with_reducible rfl
  try simp only [Act.put, List.setIfInBounds_toArray, List.set_cons_zero, List.set_cons_succ]
  refine wpAnyH_take (i := 62) (oi := ⟨_, _, _, _, _, _⟩) (v := ?_) rfl (by kernel_rfl) (by kernel_rfl) (by kernel_rfl) (fun _ _ _ h => h) (Or.inl ⟨by rfl, ?_⟩) (by assumption) ?_
  rotate_left
  · rintro W ⟨s0, s1, s2⟩; go_simp; try with_reducible rfl
  try simp only [Act.put, List.setIfInBounds_toArray, List.set_cons_zero, List.set_cons_succ]
  refine wpAnyH_ready (rs := [63]) (by kernel_rfl) (by simp) ?_
  refine AllReadyH.cons (o := ⟨_, _, _, _, _, _⟩) rfl (fun K hK => ?_) AllReadyH.nil
  go_simp
  refine (jl_scrub HD2.out recover0.2.2.2 (by decide)).mono ?_
  rintro e v4 ⟨rfl, h4, k4⟩
  rw [scrub0]
  try simp only []
  have hS4 := And.intro (k4.row hS2.1 (by simp)) (And.intro (k4.row hS2.2.1 (by simp)) (c0_sec (k4.lies HC2.out (fun a ha => by injection ha with ha; subst ha; simp))))
  have hlow := h4.low
  refine hK.out _ _ hS4 (fun hHeld => ?_)
  clear hK K h4 k4
  try simp only [Act.put, List.setIfInBounds_toArray, List.set_cons_zero, List.set_cons_succ]
  refine wpAnyH_take (i := 64) (oi := ⟨_, _, _, _, _, _⟩) (v := ?_) rfl (by kernel_rfl) (by kernel_rfl) (by kernel_rfl) (fun _ _ _ h => h) (Or.inl ⟨by rfl, ?_⟩) (by assumption) ?_
  rotate_left
  · rintro W ⟨s0, s1, s2⟩; go_simp; try with_reducible rfl
  try simp only [Act.put, List.setIfInBounds_toArray, List.set_cons_zero, List.set_cons_succ]
  refine wpAnyH_take (i := 65) (oi := ⟨_, _, _, _, _, _⟩) (v := ?_) rfl (by kernel_rfl) (by kernel_rfl) (by kernel_rfl) (fun _ _ _ h => h) (Or.inl ⟨by rfl, ?_⟩) (by assumption) ?_
  rotate_left
  · rintro W ⟨s0, s1, s2⟩; go_simp; try with_reducible rfl
  try simp only [Act.put, List.setIfInBounds_toArray, List.set_cons_zero, List.set_cons_succ]
  refine wpAnyH_take (i := 66) (oi := ⟨_, _, _, _, _, _⟩) (v := ?_) rfl (by kernel_rfl) (by kernel_rfl) (by kernel_rfl) (fun _ _ _ h => h) (Or.inl ⟨by rfl, ?_⟩) (by assumption) ?_
  rotate_left
  · rintro W ⟨s0, s1, s2⟩; go_simp; try with_reducible rfl
  try simp only [Act.put, List.setIfInBounds_toArray, List.set_cons_zero, List.set_cons_succ]
  refine wpAnyH_done (by kernel_rfl) ?_ _
  go_wp2_with fail
  go_ret
  exact ⟨rfl, by first | exact hlow | (rw [hN]; exact hlow)⟩
end Go.Proofs.Ytgkmbnmelepenaa
