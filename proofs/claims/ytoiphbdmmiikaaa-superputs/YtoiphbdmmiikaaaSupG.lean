/-
  Layer 8: the contract of Bump.
-/
import Derived.Test.YtoiphbdmmiikaaaSupF
namespace Go.Proofs.Ytoiphbdmmiikaaa
open Go.RowKit
set_option linter.unusedVariables false
set_option linter.unusedSimpArgs false

set_option maxRecDepth 100000 in
set_option maxHeartbeats 2000000 in
theorem sbump_nil (w : World) : Calls Try.prog 17 #[.pointer none] w fun e w' => e = .returned (.tuple #[.agg (sbc sb0).toArray, .int .i64 1]) ∧ Below w.heap.size w w' := by
  have hz := zeroBv
  go_enter Try.func17, Try.ntmps17
  go_wp2_with ((with_reducible refine at_alloc 29 ?_); refine alloc_sb rfl rfl ?_)
  intro w1 hr1 hb1 hs1
  have hz1 : w.heap.size < w1.heap.size := by omega
  clear hs1
  generalize hN : w.heap.size = N at *
  go_wp2_with fail
  refine (sread_nil w1).mono ?_
  rintro e w2 ⟨rfl, hb2⟩
  have hr2 := hr1.below (by omega) hb2
  have hB2 : Below N w w2 := hb1.trans (hb2.mono (by omega))
  have hz2 : N < w2.heap.size := by have := hb2.size; omega
  clear hr1 hb1 hb2 hz1
  go_wp2_with ((with_reducible refine at_alloc 29 ?_); refine alloc_sb rfl rfl ?_)
  intro w3 hq3 hb3 hs3
  have hr3 := hr2.below (by omega) hb3
  have hB3 : Below N w w3 := hB2.trans (hb3.mono (by omega))
  clear hr2 hB2 hb3
  generalize hG : w2.heap.size = G at *
  clear hG
  go_wp2_with ((with_reducible refine at_store 29 ?_); refine store_sb rfl _ _ rfl G sb0 rfl rfl hq3 rfl ?_)
  intro w4 hq4 hg4 hs4
  have hr4 := hr3.keep hg4 (fun e => by injection e with e; omega)
  have hB4 : Below N w w4 := below_grown hB3 hg4 (by omega) (by omega)
  clear hr3 hB3 hq3 hg4
  go_wp2_with ((with_reducible refine at_store 29 ?_); refine store_sb rfl _ _ rfl N sb0 rfl rfl hr4 rfl ?_)
  intro w5 hr5 hg5 hs5
  go_wp2_with fail
  exact bodyPost_ret (results_cell_tmp (fn := Try.f17) rfl _ _ N 29 _ (0, 0) _ rfl (.int .i64 1) rfl hr5 Try.underlying29 rfl (sbc_size _)) rfl ⟨rfl, by rw [hN]; exact below_grown hB4 hg5 (Nat.le_refl _) (by omega)⟩

set_option maxRecDepth 100000 in
set_option maxHeartbeats 2000000 in
/-- Bump of a disk without a superblock. -/
theorem sbump_bad (w : World) (base g : Nat) (L : List Nat) (d : Dk) (x y : Sec) (hk : d.Ok) (h : Disk w base L g d) (h0 : d.read 0 = (x, 0)) (h1 : d.read 1 = (y, 0)) (hc : chooseS x y = none) :
    Calls Try.prog 17 #[.pointer (some ⟨g, 0, none⟩)] w fun e w' => e = .returned (.tuple #[.agg (sbc sb0).toArray, .int .i64 5]) ∧ Below w.heap.size w w' := by
  have Hk := Lib.hid hk
  have HD := Lib.hid h
  have H0 := Lib.hid h0
  have H1 := Lib.hid h1
  have Hc := Lib.hid (cho_none hc)
  clear hk h h0 h1 hc
  have hz := zeroBv
  go_enter Try.func17, Try.ntmps17
  go_wp2_with ((with_reducible refine at_alloc 29 ?_); refine alloc_sb rfl rfl ?_)
  intro w1 hr1 hb1 hs1
  have hz1 : w.heap.size < w1.heap.size := by omega
  clear hs1
  generalize hN : w.heap.size = N at *
  have HD1 := Lib.hid (HD.out.below (by rw [hN]; exact hb1))
  go_wp2_with fail
  refine (sread_any w1 base g L d x y Hk.out HD1.out H0.out H1.out).mono ?_
  rintro e w2 ⟨rfl, hb2⟩
  rw [Hc.out]
  have hr2 := hr1.below (by omega) hb2
  have hB2 : Below N w w2 := hb1.trans (hb2.mono (by omega))
  have hz2 : N < w2.heap.size := by have := hb2.size; omega
  clear hr1 hb1 hb2 hz1
  go_wp2_with ((with_reducible refine at_alloc 29 ?_); refine alloc_sb rfl rfl ?_)
  intro w3 hq3 hb3 hs3
  have hr3 := hr2.below (by omega) hb3
  have hB3 : Below N w w3 := hB2.trans (hb3.mono (by omega))
  clear hr2 hB2 hb3
  generalize hG : w2.heap.size = G at *
  clear hG
  go_wp2_with ((with_reducible refine at_store 29 ?_); refine store_sb rfl _ _ rfl G sb0 rfl rfl hq3 rfl ?_)
  intro w4 hq4 hg4 hs4
  have hr4 := hr3.keep hg4 (fun e => by injection e with e; omega)
  have hB4 : Below N w w4 := below_grown hB3 hg4 (by omega) (by omega)
  clear hr3 hB3 hq3 hg4
  go_wp2_with ((with_reducible refine at_store 29 ?_); refine store_sb rfl _ _ rfl N sb0 rfl rfl hr4 rfl ?_)
  intro w5 hr5 hg5 hs5
  go_wp2_with fail
  exact bodyPost_ret (results_cell_tmp (fn := Try.f17) rfl _ _ N 29 _ (0, 0) _ rfl (.int .i64 5) rfl hr5 Try.underlying29 rfl (sbc_size _)) rfl ⟨rfl, by rw [hN]; exact below_grown hB4 hg5 (Nat.le_refl _) (by omega)⟩

/-- What Bump answers. -/
def bumpV (r : Dk × Bool) (b : Sb) : Sb := if r.2 then b.next else sb0
def bumpC (r : Dk × Bool) : Int := if r.2 then 0 else 4
theorem sbc_next (b : Sb) : (sbc b).set 4 (.int .i64 (b.m + 1)) = sbc b.next := rfl
theorem sec_load {W : World} {ρ : Operand → Value} {o : Oper} (x : Operand) (ho : o.op = .load 24 x) (g : Nat) (hx : ρ x = .pointer (some ⟨g, 0, none⟩)) {t : TypeId} {s : Sec} (hc : RowV W g t s.cs) : (execOp ρ o).run Try.prog W = .ok (.value (.agg s.cs.toArray)) W :=
  exec_load_row 24 x ho g hx _ hc Try.underlying24 rfl (sec_size s)

theorem turned_store {w wi wj : World} {base N g : Nat} {L L2 : List Nat} {d2 : Dk} (hN : w.heap.size = N) (hD : Disk wi base L2 g d2) (hb : But L N w wi) (hL : ∀ k ∈ L2, k ∈ L ∨ N < k) (hLw : ∀ k ∈ L, k < N) (hg : wi.grownBy wj (some N)) (hz : N < wi.heap.size) : Turned w base L g d2 wj := by
  refine ⟨L2, hD.but ((But.refl [N] wi.heap.size wi).grown hg (fun k e => by injection e with e; simp [e]) (Nat.le_refl _)) (fun k hk => ⟨(hD.lt hk).2, ?_⟩), ?_, ?_⟩
  · simp only [List.mem_singleton]
    rcases hL k hk with h | h
    · have := hLw k h; omega
    · omega
  · rw [hN]
    exact hb.grown hg (fun k e => by injection e with e; omega) (by omega)
  · intro k hk
    rw [hN]
    rcases hL k hk with h | h
    · exact .inl h
    · exact .inr (by omega)

set_option maxRecDepth 100000 in
set_option maxHeartbeats 4000000 in
/-- Bump of a disk that tells a superblock. -/
theorem sbump_yes (w : World) (base g : Nat) (L : List Nat) (d : Dk) (x y : Sec) (b : Sb) (k : Nat) (hk : d.Ok) (hs : d.steps < 900000) (hw : d.wait.length < 900000) (h : Disk w base L g d) (hB : base ≤ w.heap.size) (h0 : d.read 0 = (x, 0)) (h1 : d.read 1 = (y, 0)) (hc : chooseS x y = some (b, k)) (hn : b.next.ok = true) :
    Calls Try.prog 17 #[.pointer (some ⟨g, 0, none⟩)] w fun e w' => e = .returned (.tuple #[.agg (sbc (bumpV (d.bumped b k) b)).toArray, .int .i64 (bumpC (d.bumped b k))]) ∧ Turned w base L g (d.bumped b k).1 w' := by
  have Hk := Lib.hid hk
  have HD := Lib.hid h
  have H0 := Lib.hid h0
  have H1 := Lib.hid h1
  have Hc := Lib.hid (cho_some hc)
  obtain ⟨hbo, hk01⟩ := chooseS_some hc
  have Hk01 : Hid (k = 0 ∨ k = 1) := hk01.imp (·.1) (·.1)
  have hm1 : 0 ≤ b.m := (Sb.ok_iff.1 hbo).2.2.2.2.1
  have hm2 : b.m ≤ 1099511627776 := (Sb.ok_iff.1 hbo).2.2.2.2.2
  have Hp : Hid (putS b.next = (b.next.sec, 0)) := by show _ = _; rw [putS, hn]; rfl
  have hk1 := (write_ok (x := ((1 - k : Nat) : Int)) (s := b.next.sec) (k := 900000) hk (by omega) (by omega) (by omega)).1
  have Hk1 := Lib.hid hk1
  have Hw : Hid (d.wait.length < 1000000) := by show _ < _; omega
  clear hk h h0 h1 hc hbo hk01 hn hk1 hs hw
  have hz := zeroBv
  go_enter Try.func17, Try.ntmps17
  go_wp2_with ((with_reducible refine at_alloc 29 ?_); refine alloc_sb rfl rfl ?_)
  intro w1 hr1 hb1 hs1
  have hz1 : w.heap.size < w1.heap.size := by omega
  clear hs1
  generalize hN : w.heap.size = N at *
  have HD1 := Lib.hid (HD.out.below (by rw [hN]; exact hb1))
  go_wp2_with fail
  refine (sread_any w1 base g L d x y Hk.out HD1.out H0.out H1.out).mono ?_
  rintro e w2 ⟨rfl, hb2⟩
  rw [Hc.out]
  have hr2 := hr1.below (by omega) hb2
  have hB2 : Below N w w2 := hb1.trans (hb2.mono (by omega))
  have hz2 : N < w2.heap.size := by have := hb2.size; omega
  clear hr1 hb1 hb2 hz1
  go_wp2_with ((with_reducible refine at_alloc 29 ?_); refine alloc_sb rfl rfl ?_)
  intro w3 hq3 hb3 hs3
  have hr3 := hr2.below (by omega) hb3
  have hB3 : Below N w w3 := hB2.trans (hb3.mono (by omega))
  clear hr2 hB2 hb3
  generalize hG : w2.heap.size = G at *
  clear hG
  go_wp2_with ((with_reducible refine at_store 29 ?_); refine store_sb rfl _ _ rfl G b rfl rfl hq3 rfl ?_)
  intro w4 hq4 hg4 hs4
  have hr4 := hr3.keep hg4 (fun e => by injection e with e; omega)
  have hB4 : Below N w w4 := below_grown hB3 hg4 (by omega) (by omega)
  have hz4 : G < w4.heap.size := by omega
  have c4 := hq4.cell (i := 4) rfl
  clear hr3 hB3 hq3 hg4 hs4 hs3
  go_wp2_with ((with_reducible refine at_store 3 ?_); refine store_field rfl _ _ rfl G 4 (b.m + 1) rfl rfl hq4 (Nat.lt_of_lt_of_eq (by decide) (rfl : 5 = _)) ?_)
  intro w5 hq5 hg5 hs5
  rw [sbc_next] at hq5
  have hr5 := hr4.keep hg5 (fun e => by injection e with e; omega)
  have hB5 : Below N w w5 := below_grown hB4 hg5 (by omega) (by omega)
  have hz5 : G < w5.heap.size := by omega
  clear hr4 hB4 hq4 hg5 hs5 c4
  go_wp2_with ((with_reducible refine at_load 29 ?_); refine load_sb rfl _ rfl G rfl hq5 ?_)
  refine (sput_any w5 b.next).mono ?_
  rintro e w6 ⟨rfl, hb6⟩
  rw [Hp.out]
  have hr6 := hr5.below (by omega) hb6
  have hq6 := hq5.below (by omega) hb6
  have hB6 : Below N w w6 := hB5.trans (hb6.mono (by omega))
  have hz6 : G < w6.heap.size := by have := hb6.size; omega
  clear hr5 hq5 hB5 hb6
  go_wp2_with ((with_reducible refine at_alloc 24 ?_); refine alloc_sec rfl rfl ?_)
  intro w7 hx7 hb7 hs7
  have hr7 := hr6.below (by omega) hb7
  have hq7 := hq6.below (by omega) hb7
  have hB7 : Below N w w7 := hB6.trans (hb7.mono (by omega))
  clear hr6 hq6 hB6 hb7
  generalize hG2 : w6.heap.size = G2 at *
  clear hG2
  go_wp2_with ((with_reducible refine at_store 24 ?_); refine store_sec rfl _ _ rfl G2 b.next.sec rfl rfl hx7 (Sec.cs_length _) ?_)
  intro w8 hx8 hg8 hs8
  have hr8 := hr7.keep hg8 (fun e => by injection e with e; omega)
  have hq8 := hq7.keep hg8 (fun e => by injection e with e; omega)
  have hB8 : Below N w w8 := below_grown hB7 hg8 (by omega) (by omega)
  have hz8 : G2 < w8.heap.size := by omega
  clear hr7 hq7 hB7 hx7 hg8 hs8 hs7
  go_wp2_with fail
  have hxd : RowV w8.drew G2 24 b.next.sec.cs := hx8
  have hrd : RowV w8.drew N 29 (sbc sb0) := hr8
  have hqd : RowV w8.drew G 29 (sbc b.next) := hq8
  have hBd : Below N w w8.drew := ⟨hB8.os, hB8.tape, hB8.output, hB8.size, hB8.block⟩
  have hzd : G2 < w8.drew.heap.size := hz8
  have HDd : Hid (Disk w8.drew base L g d) := (HD.out.below (by rw [hN]; exact hB8)).drew
  have hLw : Hid (∀ k ∈ L, k < N) := fun k hk => by rw [← hN]; exact (HD.out.lt hk).2
  refine wp_region_held_drew (S := fun W => RowV W G2 24 b.next.sec.cs) (by kernel_rfl) hxd (fun hHeld => ?_)
  clear hx8 hr8 hq8 hB8 hz8
  generalize w8.drew = wd at *
  refine wpAnyH_take (i := 0) (oi := ⟨_, _, _, _, _, _⟩) (v := ?_) rfl (by kernel_rfl) (by kernel_rfl) (by kernel_rfl) (fun _ _ _ h => h) (Or.inl ⟨by rfl, ?_⟩) (by assumption) ?_
  rotate_left
  · intro W hSW; go_simp; try with_reducible rfl
  try simp only [Act.put, List.setIfInBounds_toArray, List.set_cons_zero, List.set_cons_succ]
  refine wpAnyH_take (i := 1) (oi := ⟨_, _, _, _, _, _⟩) (v := ?_) rfl (by kernel_rfl) (by kernel_rfl) (by kernel_rfl) (fun _ _ _ h => h) (Or.inl ⟨by rfl, ?_⟩) (by assumption) ?_
  rotate_left
  · intro W hSW; go_simp; try with_reducible rfl
  try simp only [Act.put, List.setIfInBounds_toArray, List.set_cons_zero, List.set_cons_succ]
  refine wpAnyH_take (i := 3) (oi := ⟨_, _, _, _, _, _⟩) (v := ?_) rfl (by kernel_rfl) (by kernel_rfl) (by kernel_rfl) (fun _ _ _ h => h) (Or.inl ⟨by rfl, ?_⟩) (by assumption) ?_
  rotate_left
  · intro W hSW; refine sec_load (.tmp 7) ?_ G2 ?_ hSW <;> rfl
  try simp only [Act.put, List.setIfInBounds_toArray, List.set_cons_zero, List.set_cons_succ]
  refine wpAnyH_ready (rs := [2]) (by kernel_rfl) (by simp) ?_
  refine AllReadyH.cons (o := ⟨_, _, _, _, _, _⟩) rfl (fun K hK => ?_) AllReadyH.nil
  go_simp
  refine (other_any wd k Hk01.out).mono ?_
  rintro e we ⟨rfl, e2⟩
  rw [e2]
  clear e2
  try simp only []
  refine hK.out _ _ hxd (fun hHeld => ?_)
  clear hK K
  try simp only [Act.put, List.setIfInBounds_toArray, List.set_cons_zero, List.set_cons_succ]
  refine wpAnyH_ready (rs := [4]) (by kernel_rfl) (by simp) ?_
  refine AllReadyH.cons (o := ⟨_, _, _, _, _, _⟩) rfl (fun K hK => ?_) AllReadyH.nil
  go_simp
  refine (dwrite_any wd base g L d ((1 - k : Nat) : Int) b.next.sec Hk.out Hw.out HDd.out (by have := hBd.size; omega)).mono ?_
  rintro e wf ⟨rfl, L1, hD1, hbu1, hL1⟩
  try simp only []
  have hxf := rowV_but hxd hbu1 (by omega) (fun h => by have := hLw.out _ h; omega)
  have hrf := rowV_but hrd hbu1 (by omega) (fun h => by have := hLw.out _ h; omega)
  have hqf := rowV_but hqd hbu1 (by omega) (fun h => by have := hLw.out _ h; omega)
  have hbf := ((But.of L hBd).trans (hbu1.less (by omega)))
  have hzf : G2 < wf.heap.size := by have := hbu1.size; omega
  have HL1 : Hid (∀ k ∈ L1, k ∈ L ∨ wd.heap.size ≤ k) := hL1
  refine hK.out _ _ hxf (fun hHeld => ?_)
  clear hK K
  try simp only [Act.put, List.setIfInBounds_toArray, List.set_cons_zero, List.set_cons_succ]
  have HBm : Hid (d.bumped b k = if (d.write ((1 - k : Nat) : Int) b.next.sec).2 = 0 then ((d.write ((1 - k : Nat) : Int) b.next.sec).1.flush.1, decide ((d.write ((1 - k : Nat) : Int) b.next.sec).1.flush.2 = 0)) else ((d.write ((1 - k : Nat) : Int) b.next.sec).1, false)) := rfl
  generalize hrr : d.write ((1 - k : Nat) : Int) b.next.sec = r at *
  clear hrr
  obtain ⟨d1, c1⟩ := r
  simp only at hD1
  try simp only []
  by_cases hc1 : c1 = 0
  · subst hc1
    have HB2 : Hid (d.bumped b k = (d1.flush.1, decide (d1.flush.2 = 0))) := by show _ = _; rw [HBm.out]; rfl
    have Hk2 : Hid d1.Ok := Hk1.out
    clear HBm Hk1
    refine wpAnyH_take (i := 5) (oi := ⟨_, _, _, _, _, _⟩) (v := .bool false) rfl (by kernel_rfl) (by kernel_rfl) (by kernel_rfl) (fun _ _ _ h => h) (Or.inl ⟨by rfl, ?_⟩) (by assumption) ?_
    · intro W hSW; go_simp
    try simp only [Act.put, List.setIfInBounds_toArray, List.set_cons_zero, List.set_cons_succ]
    refine wpAnyH_take (i := 6) (oi := ⟨_, _, _, _, _, _⟩) (v := ?_) rfl (by kernel_rfl) (by kernel_rfl) (by kernel_rfl) (fun _ _ _ h => h) (Or.inl ⟨by rfl, ?_⟩) (by assumption) ?_
    rotate_left
    · intro W hSW; go_simp; try with_reducible rfl
    try simp only [Act.put, List.setIfInBounds_toArray, List.set_cons_zero, List.set_cons_succ]
    refine wpAnyH_take (i := 7) (oi := ⟨_, _, _, _, _, _⟩) (v := ?_) rfl (by kernel_rfl) (by kernel_rfl) (by kernel_rfl) (fun _ _ _ h => h) (Or.inl ⟨by rfl, ?_⟩) (by assumption) ?_
    rotate_left
    · intro W hSW; go_simp; try with_reducible rfl
    try simp only [Act.put, List.setIfInBounds_toArray, List.set_cons_zero, List.set_cons_succ]
    refine wpAnyH_ready (rs := [8]) (by kernel_rfl) (by simp) ?_
    refine AllReadyH.cons (o := ⟨_, _, _, _, _, _⟩) rfl (fun K hK => ?_) AllReadyH.nil
    go_simp
    refine (dflush_any wf base g L1 d1 Hk2.out hD1).mono ?_
    rintro e wh ⟨rfl, L2, hDW, hbu2, hL2⟩
    try simp only []
    have hL1' : ∀ k ∈ L1, k ∈ L ∨ G2 < k := fun k hk => (HL1.out k hk).imp id (fun h => by omega)
    have hxh := rowV_but hxf hbu2 (by omega) (fun h => by rcases hL1' _ h with h | h; have := hLw.out _ h; omega; omega)
    have hrW := rowV_but hrf hbu2 (by omega) (fun h => by rcases hL1' _ h with h | h; have := hLw.out _ h; omega; omega)
    have hqW := rowV_but hqf hbu2 (by omega) (fun h => by rcases hL1' _ h with h | h; have := hLw.out _ h; omega; omega)
    have hbW : But L N w wh := hbf.trans (hbu2.mono (by omega) (fun k hk hm => (hL1' k hm).resolve_right (by omega)))
    have hzW : G2 < wh.heap.size := by have := hbu2.size; omega
    have hLW : ∀ k ∈ L2, k ∈ L ∨ N < k := fun k hk => by
      rcases hL2 k hk with h | h
      · exact (hL1' k h).imp id (fun h => by omega)
      · exact .inr (by omega)
    have HLW := Lib.hid hLW
    refine hK.out _ _ hxh (fun hHeld => ?_)
    clear hK K hL1' hL2 hLW
    try simp only [Act.put, List.setIfInBounds_toArray, List.set_cons_zero, List.set_cons_succ]
    generalize hqq : d1.flush = q at *
    clear hqq
    obtain ⟨d2, c2⟩ := q
    simp only at hDW
    try simp only []
    by_cases hc2 : c2 = 0
    · subst hc2
      have HE : Hid (d.bumped b k = (d2, true)) := by show _ = _; rw [HB2.out]; rfl
      have hLW := HLW.out
      clear HB2
      refine wpAnyH_take (i := 9) (oi := ⟨_, _, _, _, _, _⟩) (v := .bool false) rfl (by kernel_rfl) (by kernel_rfl) (by kernel_rfl) (fun _ _ _ h => h) (Or.inl ⟨by rfl, ?_⟩) (by assumption) ?_
      · intro W hSW; go_simp
      try simp only [Act.put, List.setIfInBounds_toArray, List.set_cons_zero, List.set_cons_succ]
      refine wpAnyH_take (i := 10) (oi := ⟨_, _, _, _, _, _⟩) (v := ?_) rfl (by kernel_rfl) (by kernel_rfl) (by kernel_rfl) (fun _ _ _ h => h) (Or.inl ⟨by rfl, ?_⟩) (by assumption) ?_
      rotate_left
      · intro W hSW; go_simp; try with_reducible rfl
      try simp only [Act.put, List.setIfInBounds_toArray, List.set_cons_zero, List.set_cons_succ]
      refine wpAnyH_done (by kernel_rfl) ?_ _
      clear hxd hrd hqd hxf hrf hqf hxh
      go_wp2_with (first | ((with_reducible refine at_load 29 ?_); refine load_sb rfl _ rfl G rfl hqW ?_) | ((with_reducible refine at_store 29 ?_); refine store_sb rfl _ _ rfl N b.next rfl rfl hrW rfl ?_))
      intro wz hrz hgz hsz
      go_wp2_with fail
      exact bodyPost_ret (results_cell_tmp (fn := Try.f17) rfl _ _ N 29 _ (0, 0) _ rfl (.int .i64 0) rfl hrz Try.underlying29 rfl (sbc_size _)) rfl ⟨by rw [HE.out]; rfl, by rw [HE.out]; exact turned_store hN hDW hbW hLW hLw.out hgz (by omega)⟩
    · have HE : Hid (d.bumped b k = (d2, false)) := by show _ = _; rw [HB2.out, decide_eq_false hc2]
      have hLW := HLW.out
      clear HB2
      refine wpAnyH_take (i := 9) (oi := ⟨_, _, _, _, _, _⟩) (v := .bool true) rfl (by kernel_rfl) (by kernel_rfl) (by kernel_rfl) (fun _ _ _ h => h) (Or.inl ⟨by rfl, ?_⟩) (by assumption) ?_
      · intro W hSW; go_simp; first | done | omega | (simp; done) | (simp; omega)
      try simp only [Act.put, List.setIfInBounds_toArray, List.set_cons_zero, List.set_cons_succ]
      refine wpAnyH_take (i := 10) (oi := ⟨_, _, _, _, _, _⟩) (v := ?_) rfl (by kernel_rfl) (by kernel_rfl) (by kernel_rfl) (fun _ _ _ h => h) (Or.inl ⟨by rfl, ?_⟩) (by assumption) ?_
      rotate_left
      · intro W hSW; go_simp; try with_reducible rfl
      try simp only [Act.put, List.setIfInBounds_toArray, List.set_cons_zero, List.set_cons_succ]
      refine wpAnyH_done (by kernel_rfl) ?_ _
      clear hxd hrd hqd hxf hrf hqf hxh
      go_wp2_with ((with_reducible refine at_store 29 ?_); refine store_sb rfl _ _ rfl N sb0 rfl rfl hrW rfl ?_)
      intro wz hrz hgz hsz
      go_wp2_with fail
      exact bodyPost_ret (results_cell_tmp (fn := Try.f17) rfl _ _ N 29 _ (0, 0) _ rfl (.int .i64 4) rfl hrz Try.underlying29 rfl (sbc_size _)) rfl ⟨by rw [HE.out]; rfl, by rw [HE.out]; exact turned_store hN hDW hbW hLW hLw.out hgz (by omega)⟩
  · have HE : Hid (d.bumped b k = (d1, false)) := by show _ = _; rw [HBm.out]; exact if_neg hc1
    clear HBm Hk1
    refine wpAnyH_take (i := 5) (oi := ⟨_, _, _, _, _, _⟩) (v := .bool true) rfl (by kernel_rfl) (by kernel_rfl) (by kernel_rfl) (fun _ _ _ h => h) (Or.inl ⟨by rfl, ?_⟩) (by assumption) ?_
    · intro W hSW; go_simp; first | done | omega | (simp; done) | (simp; omega)
    try simp only [Act.put, List.setIfInBounds_toArray, List.set_cons_zero, List.set_cons_succ]
    refine wpAnyH_take (i := 6) (oi := ⟨_, _, _, _, _, _⟩) (v := ?_) rfl (by kernel_rfl) (by kernel_rfl) (by kernel_rfl) (fun _ _ _ h => h) (Or.inl ⟨by rfl, ?_⟩) (by assumption) ?_
    rotate_left
    · intro W hSW; go_simp; try with_reducible rfl
    try simp only [Act.put, List.setIfInBounds_toArray, List.set_cons_zero, List.set_cons_succ]
    refine wpAnyH_take (i := 7) (oi := ⟨_, _, _, _, _, _⟩) (v := undef) rfl (by kernel_rfl) (by kernel_rfl) (by kernel_rfl) (fun _ _ _ h => h) (Or.inr ⟨by rfl, rfl⟩) (by assumption) ?_
    try simp only [Act.put, List.setIfInBounds_toArray, List.set_cons_zero, List.set_cons_succ]
    refine wpAnyH_take (i := 8) (oi := ⟨_, _, _, _, _, _⟩) (v := undef) rfl (by kernel_rfl) (by kernel_rfl) (by kernel_rfl) (fun _ _ _ h => h) (Or.inr ⟨by rfl, rfl⟩) (by assumption) ?_
    try simp only [Act.put, List.setIfInBounds_toArray, List.set_cons_zero, List.set_cons_succ]
    refine wpAnyH_take (i := 9) (oi := ⟨_, _, _, _, _, _⟩) (v := undef) rfl (by kernel_rfl) (by kernel_rfl) (by kernel_rfl) (fun _ _ _ h => h) (Or.inr ⟨by rfl, rfl⟩) (by assumption) ?_
    try simp only [Act.put, List.setIfInBounds_toArray, List.set_cons_zero, List.set_cons_succ]
    refine wpAnyH_take (i := 10) (oi := ⟨_, _, _, _, _, _⟩) (v := ?_) rfl (by kernel_rfl) (by kernel_rfl) (by kernel_rfl) (fun _ _ _ h => h) (Or.inl ⟨by rfl, ?_⟩) (by assumption) ?_
    rotate_left
    · intro W hSW; go_simp; try with_reducible rfl
    try simp only [Act.put, List.setIfInBounds_toArray, List.set_cons_zero, List.set_cons_succ]
    refine wpAnyH_done (by kernel_rfl) ?_ _
    have hrW := hrf
    have hDW := hD1
    have hbW := hbf
    have hLW : ∀ k ∈ L1, k ∈ L ∨ N < k := fun k hk => (HL1.out k hk).imp id (fun h => by omega)
    clear hxd hrd hqd hxf hqf hrf
    go_wp2_with ((with_reducible refine at_store 29 ?_); refine store_sb rfl _ _ rfl N sb0 rfl rfl hrW rfl ?_)
    intro wz hrz hgz hsz
    go_wp2_with fail
    exact bodyPost_ret (results_cell_tmp (fn := Try.f17) rfl _ _ N 29 _ (0, 0) _ rfl (.int .i64 4) rfl hrz Try.underlying29 rfl (sbc_size _)) rfl ⟨by rw [HE.out]; rfl, by rw [HE.out]; exact turned_store hN hDW hbW hLW hLw.out hgz (by omega)⟩
end Go.Proofs.Ytoiphbdmmiikaaa
