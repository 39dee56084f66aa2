/-
  Layer 8: the contracts of other, Read, Bump.
  Layer 8: the contract of Bump.
  Layer 8: the contract of works.
-/
import Derived.Test.YtoiphbdmmiikaaaPkSupE
import Derived.Test.YtoiphbdmmiikaaaPkDiskOk
import Derived.Test.YtoiphbdmmiikaaaPkPlanE
namespace Go.Proofs.Ytoiphbdmmiikaaa
open Go.RowKit
set_option linter.unusedVariables false
set_option linter.unusedSimpArgs false

set_option maxRecDepth 100000 in
theorem other_any (w : World) (k : Nat) (hk : k = 0 ∨ k = 1) : Calls Try.prog 33 #[.int .i64 (k : Int)] w fun e w' => e = .returned (.int .i64 ((1 - k : Nat) : Int)) ∧ w' = w := by
  rcases hk with rfl | rfl
  · go_enter Try.func33, Try.ntmps33
    go_wp2_with fail
    go_ret
    exact ⟨rfl, rfl⟩
  · go_enter Try.func33, Try.ntmps33
    go_wp2_with fail
    go_ret
    exact ⟨rfl, rfl⟩

set_option maxRecDepth 100000 in
set_option maxHeartbeats 2000000 in
theorem sread_nil (w : World) : Calls Try.prog 19 #[.pointer none] w fun e w' => e = .returned (.tuple #[.agg (sbc sb0).toArray, .int .i64 0, .int .i64 1]) ∧ Below w.heap.size w w' := by
  have hz := zeroBv
  go_enter Try.func19, Try.ntmps19
  go_wp2_with ((with_reducible refine at_alloc 29 ?_); refine alloc_sb rfl rfl ?_)
  intro w1 hr1 hb1 hs1
  go_wp2_with ((with_reducible refine at_store 29 ?_); refine store_sb rfl _ _ rfl w.heap.size sb0 rfl rfl hr1 rfl ?_)
  intro w2 hr2 hg2 hs2
  go_wp2_with fail
  exact bodyPost_ret (results_cell_tmp2 (fn := Try.f19) rfl _ _ w.heap.size 29 _ (0, 0) _ rfl (.int .i64 0) rfl (.int .i64 1) rfl hr2 Try.underlying29 rfl (sbc_size _)) rfl ⟨rfl, below_grown hb1 hg2 (Nat.le_refl _) (by omega)⟩

set_option maxRecDepth 100000 in
set_option maxHeartbeats 2000000 in
/-- Read of a disk whose two sectors can be read. -/
theorem sread_any (w : World) (base g : Nat) (L : List Nat) (d : Dk) (x y : Sec) (hk : d.Ok) (h : Disk w base L g d) (h0 : d.read 0 = (x, 0)) (h1 : d.read 1 = (y, 0)) :
    Calls Try.prog 19 #[.pointer (some ⟨g, 0, none⟩)] w fun e w' => e = .returned (.tuple #[.agg (sbc (choT x y).1).toArray, .int .i64 (choT x y).2.1, .int .i64 (choT x y).2.2]) ∧ Below w.heap.size w w' := by
  obtain ⟨vd, vw, bm, h, rfl⟩ := h
  have Hk := Lib.hid hk
  have HD := Lib.hid h
  have H0 := Lib.hid h0
  have H1 := Lib.hid h1
  clear hk h h0 h1
  go_enter Try.func19, Try.ntmps19
  go_wp2_with ((with_reducible refine at_alloc 29 ?_); refine alloc_sb rfl rfl ?_)
  intro w1 hr1 hb1 hs1
  have hz1 : w.heap.size < w1.heap.size := by omega
  clear hs1
  generalize hN : w.heap.size = N at *
  have HD1 := Lib.hid (HD.out.below (by rw [hN]; exact hb1))
  go_wp2_with fail
  refine (dread_any w1 base g bm vd vw d 0 Hk.out HD1.out).mono ?_
  rintro e w2 ⟨rfl, hb2⟩
  rw [H0.out]
  have hr2 := hr1.below (by omega) hb2
  have hB2 : Below N w w2 := hb1.trans (hb2.mono (by omega))
  have HD2 := Lib.hid (HD1.out.below hb2)
  have hz2 : N < w2.heap.size := by have := hb2.size; omega
  clear hr1 hb1 hb2 hz1
  simp only [Sec.val]
  go_wp2_with ((with_reducible refine at_alloc 24 ?_); refine alloc_sec rfl rfl ?_)
  intro w3 hx3 hb3 hs3
  have hr3 := hr2.below (by omega) hb3
  have hB3 : Below N w w3 := hB2.trans (hb3.mono (by omega))
  have HD3 := Lib.hid (HD2.out.below hb3)
  clear hr2 hB2 hb3
  generalize hG : w2.heap.size = G at *
  clear hG
  go_wp2_with ((with_reducible refine at_store 24 ?_); refine store_sec rfl _ _ rfl G x rfl rfl hx3 (Sec.cs_length _) ?_)
  intro w4 hx4 hg4 hs4
  have hr4 := hr3.keep hg4 (fun e => by injection e with e; omega)
  have hB4 : Below N w w4 := below_grown hB3 hg4 (by omega) (by omega)
  have HD4 : Hid (DiskAt w4 base g vd vw bm d) := HD3.out.but ((But.refl [G] w3.heap.size w3).grown hg4 (fun k e => by injection e with e; simp [e]) (Nat.le_refl _)) (fun k hk => ⟨(HD3.out.lt hk).2, by have := (HD.out.lt hk).2; simp; omega⟩)
  have hz4 : G < w4.heap.size := by omega
  clear hr3 hB3 hx3 hg4 hs4 hs3
  go_wp2_with fail
  refine (dread_any w4 base g bm vd vw d 1 Hk.out HD4.out).mono ?_
  rintro e w5 ⟨rfl, hb5⟩
  rw [H1.out]
  have hr5 := hr4.below (by omega) hb5
  have hx5 := hx4.below (by omega) hb5
  have hB5 : Below N w w5 := hB4.trans (hb5.mono (by omega))
  have hz5 : G < w5.heap.size := by have := hb5.size; omega
  clear hr4 hx4 hB4 hb5 hz4
  simp only [Sec.val]
  go_wp2_with ((with_reducible refine at_alloc 24 ?_); refine alloc_sec rfl rfl ?_)
  intro w6 hy6 hb6 hs6
  have hr6 := hr5.below (by omega) hb6
  have hx6 := hx5.below (by omega) hb6
  have hB6 : Below N w w6 := hB5.trans (hb6.mono (by omega))
  clear hr5 hx5 hB5 hb6
  generalize hG2 : w5.heap.size = G2 at *
  clear hG2
  go_wp2_with ((with_reducible refine at_store 24 ?_); refine store_sec rfl _ _ rfl G2 y rfl rfl hy6 (Sec.cs_length _) ?_)
  intro w7 hy7 hg7 hs7
  have hr7 := hr6.keep hg7 (fun e => by injection e with e; omega)
  have hx7 := hx6.keep hg7 (fun e => by injection e with e; omega)
  have hB7 : Below N w w7 := below_grown hB6 hg7 (by omega) (by omega)
  have hz7 : G2 < w7.heap.size := by omega
  clear hr6 hx6 hB6 hy6 hg7 hs7 hs6
  go_wp2_with (first
    | ((with_reducible refine at_load 24 ?_); refine load_sec rfl _ rfl G rfl hx7 ?_)
    | ((with_reducible refine at_load 24 ?_); refine load_sec rfl _ rfl G2 rfl hy7 ?_))
  refine (schoose_any w7 x y).mono ?_
  rintro e w8 ⟨rfl, hb8⟩
  have hr8 := hr7.below (by omega) hb8
  have hB8 : Below N w w8 := hB7.trans (hb8.mono (by omega))
  have hz8 : N < w8.heap.size := by have := hb8.size; omega
  clear hr7 hx7 hy7 hB7 hb8
  go_wp2_with ((with_reducible refine at_store 29 ?_); refine store_sb rfl _ _ rfl N (choT x y).1 rfl rfl hr8 rfl ?_)
  intro w9 hr9 hg9 hs9
  go_wp2_with fail
  exact bodyPost_ret (results_cell_tmp2 (fn := Try.f19) rfl _ _ N 29 _ (0, 0) _ rfl (.int .i64 (choT x y).2.1) rfl (.int .i64 (choT x y).2.2) rfl hr9 Try.underlying29 rfl (sbc_size _)) rfl ⟨rfl, by rw [hN]; exact below_grown hB8 hg9 (Nat.le_refl _) (by omega)⟩
end Go.Proofs.Ytoiphbdmmiikaaa
namespace Go.Proofs.Ytoiphbdmmiikaaa
open Go.RowKit
set_option linter.unusedVariables false
set_option linter.unusedSimpArgs false

set_option maxRecDepth 100000 in
set_option maxHeartbeats 2000000 in
theorem sbump_nil (w : World) : Calls Try.prog 17 #[.pointer none] w fun e w' => e = .returned (.tuple #[.agg (sbc sb0).toArray, .int .i64 1]) ∧ Below w.heap.size w w' := by
  have hz := zeroBv
  go_enter Try.func17, Try.ntmps17
  go_wp2_with ((with_reducible refine at_alloc 29 ?_); refine alloc_sb rfl rfl ?_)
  intro w1 hr1 hb1 hs1
  have hz1 : w.heap.size < w1.heap.size := by omega
  clear hs1
  generalize hN : w.heap.size = N at *
  go_wp2_with fail
  refine (sread_nil w1).mono ?_
  rintro e w2 ⟨rfl, hb2⟩
  have hr2 := hr1.below (by omega) hb2
  have hB2 : Below N w w2 := hb1.trans (hb2.mono (by omega))
  have hz2 : N < w2.heap.size := by have := hb2.size; omega
  clear hr1 hb1 hb2 hz1
  go_wp2_with ((with_reducible refine at_alloc 29 ?_); refine alloc_sb rfl rfl ?_)
  intro w3 hq3 hb3 hs3
  have hr3 := hr2.below (by omega) hb3
  have hB3 : Below N w w3 := hB2.trans (hb3.mono (by omega))
  clear hr2 hB2 hb3
  generalize hG : w2.heap.size = G at *
  clear hG
  go_wp2_with ((with_reducible refine at_store 29 ?_); refine store_sb rfl _ _ rfl G sb0 rfl rfl hq3 rfl ?_)
  intro w4 hq4 hg4 hs4
  have hr4 := hr3.keep hg4 (fun e => by injection e with e; omega)
  have hB4 : Below N w w4 := below_grown hB3 hg4 (by omega) (by omega)
  clear hr3 hB3 hq3 hg4
  go_wp2_with ((with_reducible refine at_store 29 ?_); refine store_sb rfl _ _ rfl N sb0 rfl rfl hr4 rfl ?_)
  intro w5 hr5 hg5 hs5
  go_wp2_with fail
  exact bodyPost_ret (results_cell_tmp (fn := Try.f17) rfl _ _ N 29 _ (0, 0) _ rfl (.int .i64 1) rfl hr5 Try.underlying29 rfl (sbc_size _)) rfl ⟨rfl, by rw [hN]; exact below_grown hB4 hg5 (Nat.le_refl _) (by omega)⟩

set_option maxRecDepth 100000 in
set_option maxHeartbeats 2000000 in
/-- Bump of a disk without a superblock. -/
theorem sbump_bad (w : World) (base g : Nat) (L : List Nat) (d : Dk) (x y : Sec) (hk : d.Ok) (h : Disk w base L g d) (h0 : d.read 0 = (x, 0)) (h1 : d.read 1 = (y, 0)) (hc : chooseS x y = none) :
    Calls Try.prog 17 #[.pointer (some ⟨g, 0, none⟩)] w fun e w' => e = .returned (.tuple #[.agg (sbc sb0).toArray, .int .i64 5]) ∧ Below w.heap.size w w' := by
  have Hk := Lib.hid hk
  have HD := Lib.hid h
  have H0 := Lib.hid h0
  have H1 := Lib.hid h1
  have Hc := Lib.hid (cho_none hc)
  clear hk h h0 h1 hc
  have hz := zeroBv
  go_enter Try.func17, Try.ntmps17
  go_wp2_with ((with_reducible refine at_alloc 29 ?_); refine alloc_sb rfl rfl ?_)
  intro w1 hr1 hb1 hs1
  have hz1 : w.heap.size < w1.heap.size := by omega
  clear hs1
  generalize hN : w.heap.size = N at *
  have HD1 := Lib.hid (HD.out.below (by rw [hN]; exact hb1))
  go_wp2_with fail
  refine (sread_any w1 base g L d x y Hk.out HD1.out H0.out H1.out).mono ?_
  rintro e w2 ⟨rfl, hb2⟩
  rw [Hc.out]
  have hr2 := hr1.below (by omega) hb2
  have hB2 : Below N w w2 := hb1.trans (hb2.mono (by omega))
  have hz2 : N < w2.heap.size := by have := hb2.size; omega
  clear hr1 hb1 hb2 hz1
  go_wp2_with ((with_reducible refine at_alloc 29 ?_); refine alloc_sb rfl rfl ?_)
  intro w3 hq3 hb3 hs3
  have hr3 := hr2.below (by omega) hb3
  have hB3 : Below N w w3 := hB2.trans (hb3.mono (by omega))
  clear hr2 hB2 hb3
  generalize hG : w2.heap.size = G at *
  clear hG
  go_wp2_with ((with_reducible refine at_store 29 ?_); refine store_sb rfl _ _ rfl G sb0 rfl rfl hq3 rfl ?_)
  intro w4 hq4 hg4 hs4
  have hr4 := hr3.keep hg4 (fun e => by injection e with e; omega)
  have hB4 : Below N w w4 := below_grown hB3 hg4 (by omega) (by omega)
  clear hr3 hB3 hq3 hg4
  go_wp2_with ((with_reducible refine at_store 29 ?_); refine store_sb rfl _ _ rfl N sb0 rfl rfl hr4 rfl ?_)
  intro w5 hr5 hg5 hs5
  go_wp2_with fail
  exact bodyPost_ret (results_cell_tmp (fn := Try.f17) rfl _ _ N 29 _ (0, 0) _ rfl (.int .i64 5) rfl hr5 Try.underlying29 rfl (sbc_size _)) rfl ⟨rfl, by rw [hN]; exact below_grown hB4 hg5 (Nat.le_refl _) (by omega)⟩

/-- What Bump answers. -/
def bumpV (r : Dk × Bool) (b : Sb) : Sb := if r.2 then b.next else sb0
def bumpC (r : Dk × Bool) : Int := if r.2 then 0 else 4
theorem sbc_next (b : Sb) : (sbc b).set 4 (.int .i64 (b.m + 1)) = sbc b.next := rfl
theorem sec_load {W : World} {ρ : Operand → Value} {o : Oper} (x : Operand) (ho : o.op = .load 24 x) (g : Nat) (hx : ρ x = .pointer (some ⟨g, 0, none⟩)) {t : TypeId} {s : Sec} (hc : RowV W g t s.cs) : (execOp ρ o).run Try.prog W = .ok (.value (.agg s.cs.toArray)) W :=
  exec_load_row 24 x ho g hx _ hc Try.underlying24 rfl (sec_size s)

theorem turned_store {w wi wj : World} {base N g : Nat} {L L2 : List Nat} {d2 : Dk} (hN : w.heap.size = N) (hD : Disk wi base L2 g d2) (hb : But L N w wi) (hL : ∀ k ∈ L2, k ∈ L ∨ N < k) (hLw : ∀ k ∈ L, k < N) (hg : wi.grownBy wj (some N)) (hz : N < wi.heap.size) : Turned w base L g d2 wj := by
  refine ⟨L2, hD.but ((But.refl [N] wi.heap.size wi).grown hg (fun k e => by injection e with e; simp [e]) (Nat.le_refl _)) (fun k hk => ⟨(hD.lt hk).2, ?_⟩), ?_, ?_⟩
  · simp only [List.mem_singleton]
    rcases hL k hk with h | h
    · have := hLw k h; omega
    · omega
  · rw [hN]
    exact hb.grown hg (fun k e => by injection e with e; omega) (by omega)
  · intro k hk
    rw [hN]
    rcases hL k hk with h | h
    · exact .inl h
    · exact .inr (by omega)

set_option maxRecDepth 100000 in
set_option maxHeartbeats 4000000 in
/-- Bump of a disk that tells a superblock. -/
theorem sbump_yes (w : World) (base g : Nat) (L : List Nat) (d : Dk) (x y : Sec) (b : Sb) (k : Nat) (hk : d.Ok) (hs : d.steps < 900000) (hw : d.wait.length < 900000) (h : Disk w base L g d) (hB : base ≤ w.heap.size) (h0 : d.read 0 = (x, 0)) (h1 : d.read 1 = (y, 0)) (hc : chooseS x y = some (b, k)) (hn : b.next.ok = true) :
    Calls Try.prog 17 #[.pointer (some ⟨g, 0, none⟩)] w fun e w' => e = .returned (.tuple #[.agg (sbc (bumpV (d.bumped b k) b)).toArray, .int .i64 (bumpC (d.bumped b k))]) ∧ Turned w base L g (d.bumped b k).1 w' := by
  have Hk := Lib.hid hk
  have HD := Lib.hid h
  have H0 := Lib.hid h0
  have H1 := Lib.hid h1
  have Hc := Lib.hid (cho_some hc)
  obtain ⟨hbo, hk01⟩ := chooseS_some hc
  have Hk01 : Hid (k = 0 ∨ k = 1) := hk01.imp (·.1) (·.1)
  have hm1 : 0 ≤ b.m := (Sb.ok_iff.1 hbo).2.2.2.2.1
  have hm2 : b.m ≤ 1099511627776 := (Sb.ok_iff.1 hbo).2.2.2.2.2
  have Hp : Hid (putS b.next = (b.next.sec, 0)) := by show _ = _; rw [putS, hn]; rfl
  have hk1 := (write_ok (x := ((1 - k : Nat) : Int)) (s := b.next.sec) (k := 900000) hk (by omega) (by omega) (by omega)).1
  have Hk1 := Lib.hid hk1
  have Hw : Hid (d.wait.length < 1000000) := by show _ < _; omega
  clear hk h h0 h1 hc hbo hk01 hn hk1 hs hw
  have hz := zeroBv
  go_enter Try.func17, Try.ntmps17
  go_wp2_with ((with_reducible refine at_alloc 29 ?_); refine alloc_sb rfl rfl ?_)
  intro w1 hr1 hb1 hs1
  have hz1 : w.heap.size < w1.heap.size := by omega
  clear hs1
  generalize hN : w.heap.size = N at *
  have HD1 := Lib.hid (HD.out.below (by rw [hN]; exact hb1))
  go_wp2_with fail
  refine (sread_any w1 base g L d x y Hk.out HD1.out H0.out H1.out).mono ?_
  rintro e w2 ⟨rfl, hb2⟩
  rw [Hc.out]
  have hr2 := hr1.below (by omega) hb2
  have hB2 : Below N w w2 := hb1.trans (hb2.mono (by omega))
  have hz2 : N < w2.heap.size := by have := hb2.size; omega
  clear hr1 hb1 hb2 hz1
  go_wp2_with ((with_reducible refine at_alloc 29 ?_); refine alloc_sb rfl rfl ?_)
  intro w3 hq3 hb3 hs3
  have hr3 := hr2.below (by omega) hb3
  have hB3 : Below N w w3 := hB2.trans (hb3.mono (by omega))
  clear hr2 hB2 hb3
  generalize hG : w2.heap.size = G at *
  clear hG
  go_wp2_with ((with_reducible refine at_store 29 ?_); refine store_sb rfl _ _ rfl G b rfl rfl hq3 rfl ?_)
  intro w4 hq4 hg4 hs4
  have hr4 := hr3.keep hg4 (fun e => by injection e with e; omega)
  have hB4 : Below N w w4 := below_grown hB3 hg4 (by omega) (by omega)
  have hz4 : G < w4.heap.size := by omega
  have c4 := hq4.cell (i := 4) rfl
  clear hr3 hB3 hq3 hg4 hs4 hs3
  go_wp2_with ((with_reducible refine at_store 3 ?_); refine store_field rfl _ _ rfl G 4 (b.m + 1) rfl rfl hq4 (Nat.lt_of_lt_of_eq (by decide) (rfl : 5 = _)) ?_)
  intro w5 hq5 hg5 hs5
  rw [sbc_next] at hq5
  have hr5 := hr4.keep hg5 (fun e => by injection e with e; omega)
  have hB5 : Below N w w5 := below_grown hB4 hg5 (by omega) (by omega)
  have hz5 : G < w5.heap.size := by omega
  clear hr4 hB4 hq4 hg5 hs5 c4
  go_wp2_with ((with_reducible refine at_load 29 ?_); refine load_sb rfl _ rfl G rfl hq5 ?_)
  refine (sput_any w5 b.next).mono ?_
  rintro e w6 ⟨rfl, hb6⟩
  rw [Hp.out]
  have hr6 := hr5.below (by omega) hb6
  have hq6 := hq5.below (by omega) hb6
  have hB6 : Below N w w6 := hB5.trans (hb6.mono (by omega))
  have hz6 : G < w6.heap.size := by have := hb6.size; omega
  clear hr5 hq5 hB5 hb6
  go_wp2_with ((with_reducible refine at_alloc 24 ?_); refine alloc_sec rfl rfl ?_)
  intro w7 hx7 hb7 hs7
  have hr7 := hr6.below (by omega) hb7
  have hq7 := hq6.below (by omega) hb7
  have hB7 : Below N w w7 := hB6.trans (hb7.mono (by omega))
  clear hr6 hq6 hB6 hb7
  generalize hG2 : w6.heap.size = G2 at *
  clear hG2
  go_wp2_with ((with_reducible refine at_store 24 ?_); refine store_sec rfl _ _ rfl G2 b.next.sec rfl rfl hx7 (Sec.cs_length _) ?_)
  intro w8 hx8 hg8 hs8
  have hr8 := hr7.keep hg8 (fun e => by injection e with e; omega)
  have hq8 := hq7.keep hg8 (fun e => by injection e with e; omega)
  have hB8 : Below N w w8 := below_grown hB7 hg8 (by omega) (by omega)
  have hz8 : G2 < w8.heap.size := by omega
  clear hr7 hq7 hB7 hx7 hg8 hs8 hs7
  go_wp2_with fail
  have hxd : RowV w8.drew G2 24 b.next.sec.cs := hx8
  have hrd : RowV w8.drew N 29 (sbc sb0) := hr8
  have hqd : RowV w8.drew G 29 (sbc b.next) := hq8
  have hBd : Below N w w8.drew := ⟨hB8.os, hB8.tape, hB8.output, hB8.size, hB8.block⟩
  have hzd : G2 < w8.drew.heap.size := hz8
  have HDd : Hid (Disk w8.drew base L g d) := (HD.out.below (by rw [hN]; exact hB8)).drew
  have hLw : Hid (∀ k ∈ L, k < N) := fun k hk => by rw [← hN]; exact (HD.out.lt hk).2
  refine wp_region_held_drew (S := fun W => RowV W G2 24 b.next.sec.cs) (by kernel_rfl) hxd (fun hHeld => ?_)
  clear hx8 hr8 hq8 hB8 hz8
  generalize w8.drew = wd at *
  refine wpAnyH_take (i := 0) (oi := ⟨_, _, _, _, _, _⟩) (v := ?_) rfl (by kernel_rfl) (by kernel_rfl) (by kernel_rfl) (fun _ _ _ h => h) (Or.inl ⟨by rfl, ?_⟩) (by assumption) ?_
  rotate_left
  · intro W hSW; go_simp; try with_reducible rfl
  try simp only [Act.put, List.setIfInBounds_toArray, List.set_cons_zero, List.set_cons_succ]
  refine wpAnyH_take (i := 1) (oi := ⟨_, _, _, _, _, _⟩) (v := ?_) rfl (by kernel_rfl) (by kernel_rfl) (by kernel_rfl) (fun _ _ _ h => h) (Or.inl ⟨by rfl, ?_⟩) (by assumption) ?_
  rotate_left
  · intro W hSW; go_simp; try with_reducible rfl
  try simp only [Act.put, List.setIfInBounds_toArray, List.set_cons_zero, List.set_cons_succ]
  refine wpAnyH_take (i := 3) (oi := ⟨_, _, _, _, _, _⟩) (v := ?_) rfl (by kernel_rfl) (by kernel_rfl) (by kernel_rfl) (fun _ _ _ h => h) (Or.inl ⟨by rfl, ?_⟩) (by assumption) ?_
  rotate_left
  · intro W hSW; refine sec_load (.tmp 7) ?_ G2 ?_ hSW <;> rfl
  try simp only [Act.put, List.setIfInBounds_toArray, List.set_cons_zero, List.set_cons_succ]
  refine wpAnyH_ready (rs := [2]) (by kernel_rfl) (by simp) ?_
  refine AllReadyH.cons (o := ⟨_, _, _, _, _, _⟩) rfl (fun K hK => ?_) AllReadyH.nil
  go_simp
  refine (other_any wd k Hk01.out).mono ?_
  rintro e we ⟨rfl, e2⟩
  rw [e2]
  clear e2
  try simp only []
  refine hK.out _ _ hxd (fun hHeld => ?_)
  clear hK K
  try simp only [Act.put, List.setIfInBounds_toArray, List.set_cons_zero, List.set_cons_succ]
  refine wpAnyH_ready (rs := [4]) (by kernel_rfl) (by simp) ?_
  refine AllReadyH.cons (o := ⟨_, _, _, _, _, _⟩) rfl (fun K hK => ?_) AllReadyH.nil
  go_simp
  refine (dwrite_any wd base g L d ((1 - k : Nat) : Int) b.next.sec Hk.out Hw.out HDd.out (by have := hBd.size; omega)).mono ?_
  rintro e wf ⟨rfl, L1, hD1, hbu1, hL1⟩
  try simp only []
  have hxf := rowV_but hxd hbu1 (by omega) (fun h => by have := hLw.out _ h; omega)
  have hrf := rowV_but hrd hbu1 (by omega) (fun h => by have := hLw.out _ h; omega)
  have hqf := rowV_but hqd hbu1 (by omega) (fun h => by have := hLw.out _ h; omega)
  have hbf := ((But.of L hBd).trans (hbu1.less (by omega)))
  have hzf : G2 < wf.heap.size := by have := hbu1.size; omega
  have HL1 : Hid (∀ k ∈ L1, k ∈ L ∨ wd.heap.size ≤ k) := hL1
  refine hK.out _ _ hxf (fun hHeld => ?_)
  clear hK K
  try simp only [Act.put, List.setIfInBounds_toArray, List.set_cons_zero, List.set_cons_succ]
  have HBm : Hid (d.bumped b k = if (d.write ((1 - k : Nat) : Int) b.next.sec).2 = 0 then ((d.write ((1 - k : Nat) : Int) b.next.sec).1.flush.1, decide ((d.write ((1 - k : Nat) : Int) b.next.sec).1.flush.2 = 0)) else ((d.write ((1 - k : Nat) : Int) b.next.sec).1, false)) := rfl
  generalize hrr : d.write ((1 - k : Nat) : Int) b.next.sec = r at *
  clear hrr
  obtain ⟨d1, c1⟩ := r
  simp only at hD1
  try simp only []
  by_cases hc1 : c1 = 0
  · subst hc1
    have HB2 : Hid (d.bumped b k = (d1.flush.1, decide (d1.flush.2 = 0))) := by show _ = _; rw [HBm.out]; rfl
    have Hk2 : Hid d1.Ok := Hk1.out
    clear HBm Hk1
    refine wpAnyH_take (i := 5) (oi := ⟨_, _, _, _, _, _⟩) (v := .bool false) rfl (by kernel_rfl) (by kernel_rfl) (by kernel_rfl) (fun _ _ _ h => h) (Or.inl ⟨by rfl, ?_⟩) (by assumption) ?_
    · intro W hSW; go_simp
    try simp only [Act.put, List.setIfInBounds_toArray, List.set_cons_zero, List.set_cons_succ]
    refine wpAnyH_take (i := 6) (oi := ⟨_, _, _, _, _, _⟩) (v := ?_) rfl (by kernel_rfl) (by kernel_rfl) (by kernel_rfl) (fun _ _ _ h => h) (Or.inl ⟨by rfl, ?_⟩) (by assumption) ?_
    rotate_left
    · intro W hSW; go_simp; try with_reducible rfl
    try simp only [Act.put, List.setIfInBounds_toArray, List.set_cons_zero, List.set_cons_succ]
    refine wpAnyH_take (i := 7) (oi := ⟨_, _, _, _, _, _⟩) (v := ?_) rfl (by kernel_rfl) (by kernel_rfl) (by kernel_rfl) (fun _ _ _ h => h) (Or.inl ⟨by rfl, ?_⟩) (by assumption) ?_
    rotate_left
    · intro W hSW; go_simp; try with_reducible rfl
    try simp only [Act.put, List.setIfInBounds_toArray, List.set_cons_zero, List.set_cons_succ]
    refine wpAnyH_ready (rs := [8]) (by kernel_rfl) (by simp) ?_
    refine AllReadyH.cons (o := ⟨_, _, _, _, _, _⟩) rfl (fun K hK => ?_) AllReadyH.nil
    go_simp
    refine (dflush_any wf base g L1 d1 Hk2.out hD1).mono ?_
    rintro e wh ⟨rfl, L2, hDW, hbu2, hL2⟩
    try simp only []
    have hL1' : ∀ k ∈ L1, k ∈ L ∨ G2 < k := fun k hk => (HL1.out k hk).imp id (fun h => by omega)
    have hxh := rowV_but hxf hbu2 (by omega) (fun h => by rcases hL1' _ h with h | h; have := hLw.out _ h; omega; omega)
    have hrW := rowV_but hrf hbu2 (by omega) (fun h => by rcases hL1' _ h with h | h; have := hLw.out _ h; omega; omega)
    have hqW := rowV_but hqf hbu2 (by omega) (fun h => by rcases hL1' _ h with h | h; have := hLw.out _ h; omega; omega)
    have hbW : But L N w wh := hbf.trans (hbu2.mono (by omega) (fun k hk hm => (hL1' k hm).resolve_right (by omega)))
    have hzW : G2 < wh.heap.size := by have := hbu2.size; omega
    have hLW : ∀ k ∈ L2, k ∈ L ∨ N < k := fun k hk => by
      rcases hL2 k hk with h | h
      · exact (hL1' k h).imp id (fun h => by omega)
      · exact .inr (by omega)
    have HLW := Lib.hid hLW
    refine hK.out _ _ hxh (fun hHeld => ?_)
    clear hK K hL1' hL2 hLW
    try simp only [Act.put, List.setIfInBounds_toArray, List.set_cons_zero, List.set_cons_succ]
    generalize hqq : d1.flush = q at *
    clear hqq
    obtain ⟨d2, c2⟩ := q
    simp only at hDW
    try simp only []
    by_cases hc2 : c2 = 0
    · subst hc2
      have HE : Hid (d.bumped b k = (d2, true)) := by show _ = _; rw [HB2.out]; rfl
      have hLW := HLW.out
      clear HB2
      refine wpAnyH_take (i := 9) (oi := ⟨_, _, _, _, _, _⟩) (v := .bool false) rfl (by kernel_rfl) (by kernel_rfl) (by kernel_rfl) (fun _ _ _ h => h) (Or.inl ⟨by rfl, ?_⟩) (by assumption) ?_
      · intro W hSW; go_simp
      try simp only [Act.put, List.setIfInBounds_toArray, List.set_cons_zero, List.set_cons_succ]
      refine wpAnyH_take (i := 10) (oi := ⟨_, _, _, _, _, _⟩) (v := ?_) rfl (by kernel_rfl) (by kernel_rfl) (by kernel_rfl) (fun _ _ _ h => h) (Or.inl ⟨by rfl, ?_⟩) (by assumption) ?_
      rotate_left
      · intro W hSW; go_simp; try with_reducible rfl
      try simp only [Act.put, List.setIfInBounds_toArray, List.set_cons_zero, List.set_cons_succ]
      refine wpAnyH_done (by kernel_rfl) ?_ _
      clear hxd hrd hqd hxf hrf hqf hxh
      go_wp2_with (first | ((with_reducible refine at_load 29 ?_); refine load_sb rfl _ rfl G rfl hqW ?_) | ((with_reducible refine at_store 29 ?_); refine store_sb rfl _ _ rfl N b.next rfl rfl hrW rfl ?_))
      intro wz hrz hgz hsz
      go_wp2_with fail
      exact bodyPost_ret (results_cell_tmp (fn := Try.f17) rfl _ _ N 29 _ (0, 0) _ rfl (.int .i64 0) rfl hrz Try.underlying29 rfl (sbc_size _)) rfl ⟨by rw [HE.out]; rfl, by rw [HE.out]; exact turned_store hN hDW hbW hLW hLw.out hgz (by omega)⟩
    · have HE : Hid (d.bumped b k = (d2, false)) := by show _ = _; rw [HB2.out, decide_eq_false hc2]
      have hLW := HLW.out
      clear HB2
      refine wpAnyH_take (i := 9) (oi := ⟨_, _, _, _, _, _⟩) (v := .bool true) rfl (by kernel_rfl) (by kernel_rfl) (by kernel_rfl) (fun _ _ _ h => h) (Or.inl ⟨by rfl, ?_⟩) (by assumption) ?_
      · intro W hSW; go_simp; first | done | omega | (simp; done) | (simp; omega)
      try simp only [Act.put, List.setIfInBounds_toArray, List.set_cons_zero, List.set_cons_succ]
      refine wpAnyH_take (i := 10) (oi := ⟨_, _, _, _, _, _⟩) (v := ?_) rfl (by kernel_rfl) (by kernel_rfl) (by kernel_rfl) (fun _ _ _ h => h) (Or.inl ⟨by rfl, ?_⟩) (by assumption) ?_
      rotate_left
      · intro W hSW; go_simp; try with_reducible rfl
      try simp only [Act.put, List.setIfInBounds_toArray, List.set_cons_zero, List.set_cons_succ]
      refine wpAnyH_done (by kernel_rfl) ?_ _
      clear hxd hrd hqd hxf hrf hqf hxh
      go_wp2_with ((with_reducible refine at_store 29 ?_); refine store_sb rfl _ _ rfl N sb0 rfl rfl hrW rfl ?_)
      intro wz hrz hgz hsz
      go_wp2_with fail
      exact bodyPost_ret (results_cell_tmp (fn := Try.f17) rfl _ _ N 29 _ (0, 0) _ rfl (.int .i64 4) rfl hrz Try.underlying29 rfl (sbc_size _)) rfl ⟨by rw [HE.out]; rfl, by rw [HE.out]; exact turned_store hN hDW hbW hLW hLw.out hgz (by omega)⟩
  · have HE : Hid (d.bumped b k = (d1, false)) := by show _ = _; rw [HBm.out]; exact if_neg hc1
    clear HBm Hk1
    refine wpAnyH_take (i := 5) (oi := ⟨_, _, _, _, _, _⟩) (v := .bool true) rfl (by kernel_rfl) (by kernel_rfl) (by kernel_rfl) (fun _ _ _ h => h) (Or.inl ⟨by rfl, ?_⟩) (by assumption) ?_
    · intro W hSW; go_simp; first | done | omega | (simp; done) | (simp; omega)
    try simp only [Act.put, List.setIfInBounds_toArray, List.set_cons_zero, List.set_cons_succ]
    refine wpAnyH_take (i := 6) (oi := ⟨_, _, _, _, _, _⟩) (v := ?_) rfl (by kernel_rfl) (by kernel_rfl) (by kernel_rfl) (fun _ _ _ h => h) (Or.inl ⟨by rfl, ?_⟩) (by assumption) ?_
    rotate_left
    · intro W hSW; go_simp; try with_reducible rfl
    try simp only [Act.put, List.setIfInBounds_toArray, List.set_cons_zero, List.set_cons_succ]
    refine wpAnyH_take (i := 7) (oi := ⟨_, _, _, _, _, _⟩) (v := undef) rfl (by kernel_rfl) (by kernel_rfl) (by kernel_rfl) (fun _ _ _ h => h) (Or.inr ⟨by rfl, rfl⟩) (by assumption) ?_
    try simp only [Act.put, List.setIfInBounds_toArray, List.set_cons_zero, List.set_cons_succ]
    refine wpAnyH_take (i := 8) (oi := ⟨_, _, _, _, _, _⟩) (v := undef) rfl (by kernel_rfl) (by kernel_rfl) (by kernel_rfl) (fun _ _ _ h => h) (Or.inr ⟨by rfl, rfl⟩) (by assumption) ?_
    try simp only [Act.put, List.setIfInBounds_toArray, List.set_cons_zero, List.set_cons_succ]
    refine wpAnyH_take (i := 9) (oi := ⟨_, _, _, _, _, _⟩) (v := undef) rfl (by kernel_rfl) (by kernel_rfl) (by kernel_rfl) (fun _ _ _ h => h) (Or.inr ⟨by rfl, rfl⟩) (by assumption) ?_
    try simp only [Act.put, List.setIfInBounds_toArray, List.set_cons_zero, List.set_cons_succ]
    refine wpAnyH_take (i := 10) (oi := ⟨_, _, _, _, _, _⟩) (v := ?_) rfl (by kernel_rfl) (by kernel_rfl) (by kernel_rfl) (fun _ _ _ h => h) (Or.inl ⟨by rfl, ?_⟩) (by assumption) ?_
    rotate_left
    · intro W hSW; go_simp; try with_reducible rfl
    try simp only [Act.put, List.setIfInBounds_toArray, List.set_cons_zero, List.set_cons_succ]
    refine wpAnyH_done (by kernel_rfl) ?_ _
    have hrW := hrf
    have hDW := hD1
    have hbW := hbf
    have hLW : ∀ k ∈ L1, k ∈ L ∨ N < k := fun k hk => (HL1.out k hk).imp id (fun h => by omega)
    clear hxd hrd hqd hxf hqf hrf
    go_wp2_with ((with_reducible refine at_store 29 ?_); refine store_sb rfl _ _ rfl N sb0 rfl rfl hrW rfl ?_)
    intro wz hrz hgz hsz
    go_wp2_with fail
    exact bodyPost_ret (results_cell_tmp (fn := Try.f17) rfl _ _ N 29 _ (0, 0) _ rfl (.int .i64 4) rfl hrz Try.underlying29 rfl (sbc_size _)) rfl ⟨by rw [HE.out]; rfl, by rw [HE.out]; exact turned_store hN hDW hbW hLW hLw.out hgz (by omega)⟩
end Go.Proofs.Ytoiphbdmmiikaaa
namespace Go.Proofs.Ytoiphbdmmiikaaa
open Go.RowKit
set_option linter.unusedVariables false
set_option linter.unusedSimpArgs false

def bq (m : Int) : Sb := ⟨3, 2, 1, 4, m⟩
theorem bq6_ok : (bq 6).ok = true := by decide
theorem bq7_ok : (bq 7).ok = true := by decide
theorem get_zero : getS zeroSec = none := get_mark (by decide +kernel)
/-- The disks that works makes. -/
def q1 (x : Sec) : Dk := ⟨List.replicate 5 zeroSec, [(1, x)], 1, none, false⟩
def q2 (x y : Sec) : Dk := ⟨[y, x, zeroSec, zeroSec, zeroSec], [], 3, none, false⟩
theorem q1_eq (x : Sec) : (Dk.new 5).write 1 x = (q1 x, 0) := rfl
theorem q0_read0 : (Dk.new 5).read 0 = (zeroSec, 0) := rfl
theorem q0_read1 : (Dk.new 5).read 1 = (zeroSec, 0) := rfl
theorem q1_read0 (x : Sec) : (q1 x).read 0 = (zeroSec, 0) := rfl
theorem q1_read1 (x : Sec) : (q1 x).read 1 = (x, 0) := rfl
theorem q2_eq (x : Sec) (b : Sb) : (q1 x).bumped b 1 = (q2 x b.next.sec, true) := rfl
theorem q2_read0 (x y : Sec) : (q2 x y).read 0 = (y, 0) := rfl
theorem q2_read1 (x y : Sec) : (q2 x y).read 1 = (x, 0) := rfl
theorem q0_ok : (Dk.new 5).Ok := new_ok (by omega) (by omega)
theorem q1_ok (x : Sec) : (q1 x).Ok := by
  have := (write_ok (x := 1) (s := x) (k := 0) q0_ok (Nat.le_refl _) (Nat.le_refl _) (by omega)).1
  rwa [q1_eq] at this
theorem q2_ok (x y : Sec) : (q2 x y).Ok := ⟨(by intro c hc; cases hc), by simp [q2], by simp [q2], by simp [q2], by simp [q2], (by intro n hn; simp [q2] at hn)⟩
theorem cho_zz : chooseS zeroSec zeroSec = none := by unfold chooseS; rw [get_zero]
theorem cho_zx {x : Sec} {b : Sb} (h : getS x = some b) : chooseS zeroSec x = some (b, 1) := by unfold chooseS; rw [get_zero, h]
theorem Try.builtPl : Try.prog.built 23 [(0, .int .i64 3), (1, .int .i64 2), (2, .int .i64 1), (3, .int .i64 4)] = some (pc 3 2 1 4).toArray := by kernel_rfl
/-- What a call makes of a disk that lies from base on leaves alone what lies below. -/
theorem Turned.low {w w' : World} {base g : Nat} {L : List Nat} {d d' : Dk} (h : Disk w base L g d) (hB : base ≤ w.heap.size) (ht : Turned w base L g d' w') : (∃ L', Disk w' base L' g d') ∧ Below base w w' := by
  obtain ⟨L', h1, h2, _⟩ := ht
  exact ⟨⟨L', h1⟩, (h2.less hB).below (fun k hk => (h.lt hk).1)⟩

set_option maxRecDepth 100000 in
set_option maxHeartbeats 8000000 in
theorem works08_any (w : World) : Calls Try.prog 12 #[] w fun e w' => e = .returned (.bool true) ∧ Below w.heap.size w w' := by
  obtain ⟨x6, hx6⟩ : ∃ s, (bq 6).sec = s := ⟨_, rfl⟩
  obtain ⟨x7, hx7⟩ : ∃ s, (bq 7).sec = s := ⟨_, rfl⟩
  have Hp6 : Hid (putS (bq 6) = (x6, 0)) := by show _ = _; rw [putS, bq6_ok, ← hx6]; rfl
  have Hp7 : Hid (putS (bq 7) = (x7, 0)) := by show _ = _; rw [putS, bq7_ok, ← hx7]; rfl
  have Hs6 : Hid (getS x6 = some (bq 6)) := by show _ = _; rw [← hx6]; exact getS_sec bq6_ok
  have Hs7 : Hid (getS x7 = some (bq 7)) := by show _ = _; rw [← hx7]; exact getS_sec bq7_ok
  have Hg6 := Lib.hid (get_some Hs6.out)
  have Hg0 := Lib.hid (get_none get_zero)
  have Hc1 : Hid (choT x6 x7 = (bq 7, 1, 0)) := cho_ss2 Hs6.out Hs7.out (by decide)
  have Hc2 : Hid (choT x7 x6 = (bq 7, 0, 0)) := cho_ss1 Hs7.out Hs6.out (by decide)
  have Hq2 : Hid ((q1 x6).bumped (bq 6) 1 = (q2 x6 x7, true)) := by show _ = _; rw [← hx7]; exact q2_eq x6 (bq 6)
  have Hv : Hid (bumpV ((q1 x6).bumped (bq 6) 1) (bq 6) = bq 7 ∧ bumpC ((q1 x6).bumped (bq 6) 1) = 0) := by show _ ∧ _; rw [Hq2.out]; exact ⟨rfl, rfl⟩
  clear hx6 hx7
  have hzs := zeroSv
  have hz := zeroBv
  have heq := eq_plan
  go_enter Try.func12, Try.ntmps12
  generalize hN : w.heap.size = N at *
  have hB_0 : Below N w w := Below.refl _ _
  go_wp2_with (first
    | ((with_reducible refine at_build 23 ?_); refine wpList_build_to rfl 23 _ rfl (pc 3 2 1 4) (by rw [Array.toList_map]; exact Try.builtPl) ?_)
    | ((with_reducible refine at_alloc 23 ?_); refine wpList_alloc_rowV rfl 23 rfl (pc 0 0 0 0) Try.zeroP ?_))
  intro w1 rp_1 hb1 hs1
  have hB_1 : Below N w w1 := by rw [← hN] at hb1 ⊢; exact hb1
  have rp_1 : RowV w1 N 23 (pc 0 0 0 0) := by rw [← hN] at rp_1 ⊢; exact rp_1
  have hz_1 : N < w1.heap.size := by omega
  clear hb1 hs1 hB_0
  go_wp2_with ((with_reducible refine at_store 23 ?_); refine wpList_store_rowV rfl 23 _ _ rfl N (pc 3 2 1 4) rfl rfl 23 (pc 0 0 0 0) rp_1 (pc_size 3 2 1 4) rfl (pc_all 3 2 1 4) ?_)
  intro w2 rp_2 hg2 hs2
  have hB_2 : Below N w w2 := below_grown hB_1 hg2 (by omega) (by omega)
  have hz_2 : N < w2.heap.size := by omega
  clear rp_1 hB_1
  clear hg2 hs2 hz_1
  go_wp2_with (first
    | ((with_reducible refine at_load 23 ?_); refine load_plan rfl _ rfl N rfl rp_2 ?_)
    | ((with_reducible refine at_build 29 ?_); refine wpList_build_to rfl 29 _ rfl (sbc (bq 6)) (by rw [Array.toList_map]; exact Try.builtS 3 2 1 4 6) ?_))
  refine (sput_any w2 (bq 6)).mono ?_
  rintro e w3 ⟨rfl, hb3⟩
  rw [Hp6.out]
  have rp_3 := rp_2.below (by omega) hb3
  have hB_3 : Below N w w3 := hB_2.trans (hb3.mono (by omega))
  have hz_3 : N < w3.heap.size := by have := hb3.size; omega
  clear rp_2 hB_2
  clear hz_2
  go_wp2_with ((with_reducible refine at_alloc 24 ?_); refine alloc_sec rfl rfl ?_)
  intro w4 rx_4 hb4 hs4
  have rp_4 := rp_3.below (by omega) hb4
  have hB_4 : Below N w w4 := hB_3.trans (hb4.mono (by omega))
  clear rp_3 hB_3
  clear hb4
  generalize hgGx : w3.heap.size = Gx at *
  clear hgGx
  have hz_4 : Gx < w4.heap.size := by omega
  clear hs4
  go_wp2_with ((with_reducible refine at_store 24 ?_); refine store_sec rfl _ _ rfl Gx x6 rfl rfl rx_4 (Sec.cs_length _) ?_)
  intro w5 rx_5 hg5 hs5
  have rp_5 := rp_4.keep hg5 (fun e => by injection e with e; omega)
  have hB_5 : Below N w w5 := below_grown hB_4 hg5 (by omega) (by omega)
  have hz_5 : Gx < w5.heap.size := by omega
  clear rp_4 rx_4 hB_4
  clear hg5 hs5 hz_4
  go_wp2_with ((with_reducible refine at_load 24 ?_); refine load_sec rfl _ rfl Gx rfl rx_5 ?_)
  refine (sget_any w5 x6).mono ?_
  rintro e w6 ⟨rfl, hb6⟩
  rw [Hg6.out.1, Hg6.out.2]
  have rp_6 := rp_5.below (by omega) hb6
  have rx_6 := rx_5.below (by omega) hb6
  have hB_6 : Below N w w6 := hB_5.trans (hb6.mono (by omega))
  have hz_6 : Gx < w6.heap.size := by have := hb6.size; omega
  clear rp_5 rx_5 hB_5
  clear hz_5
  go_wp2_with ((with_reducible refine at_alloc 29 ?_); refine alloc_sb rfl rfl ?_)
  intro w7 rs_7 hb7 hs7
  have rp_7 := rp_6.below (by omega) hb7
  have rx_7 := rx_6.below (by omega) hb7
  have hB_7 : Below N w w7 := hB_6.trans (hb7.mono (by omega))
  clear rp_6 rx_6 hB_6
  clear hb7
  generalize hgGs : w6.heap.size = Gs at *
  clear hgGs
  have hz_7 : Gs < w7.heap.size := by omega
  clear hs7
  go_wp2_with ((with_reducible refine at_store 29 ?_); refine store_sb rfl _ _ rfl Gs (bq 6) rfl rfl rs_7 rfl ?_)
  intro w8 rs_8 hg8 hs8
  have rp_8 := rp_7.keep hg8 (fun e => by injection e with e; omega)
  have rx_8 := rx_7.keep hg8 (fun e => by injection e with e; omega)
  have hB_8 : Below N w w8 := below_grown hB_7 hg8 (by omega) (by omega)
  have hz_8 : Gs < w8.heap.size := by omega
  clear rp_7 rx_7 rs_7 hB_7
  clear hg8 hs8 hz_7
  go_wp2_with fail
  refine (sget_any w8 zeroSec).mono ?_
  rintro e w9 ⟨rfl, hb9⟩
  rw [Hg0.out.1, Hg0.out.2]
  have rp_9 := rp_8.below (by omega) hb9
  have rx_9 := rx_8.below (by omega) hb9
  have rs_9 := rs_8.below (by omega) hb9
  have hB_9 : Below N w w9 := hB_8.trans (hb9.mono (by omega))
  have hz_9 : Gs < w9.heap.size := by have := hb9.size; omega
  clear rp_8 rx_8 rs_8 hB_8
  clear hz_8
  go_wp2_with ((with_reducible refine at_alloc 29 ?_); refine alloc_sb rfl rfl ?_)
  intro w10 rz_10 hb10 hs10
  have rp_10 := rp_9.below (by omega) hb10
  have rx_10 := rx_9.below (by omega) hb10
  have rs_10 := rs_9.below (by omega) hb10
  have hB_10 : Below N w w10 := hB_9.trans (hb10.mono (by omega))
  clear rp_9 rx_9 rs_9 hB_9
  clear hb10
  generalize hgGz : w9.heap.size = Gz at *
  clear hgGz
  have hz_10 : Gz < w10.heap.size := by omega
  clear hs10
  go_wp2_with ((with_reducible refine at_store 29 ?_); refine store_sb rfl _ _ rfl Gz sb0 rfl rfl rz_10 rfl ?_)
  intro w11 rz_11 hg11 hs11
  have rp_11 := rp_10.keep hg11 (fun e => by injection e with e; omega)
  have rx_11 := rx_10.keep hg11 (fun e => by injection e with e; omega)
  have rs_11 := rs_10.keep hg11 (fun e => by injection e with e; omega)
  have hB_11 : Below N w w11 := below_grown hB_10 hg11 (by omega) (by omega)
  have hz_11 : Gz < w11.heap.size := by omega
  clear rp_10 rx_10 rs_10 rz_10 hB_10
  clear hg11 hs11 hz_10
  clear rz_11
  go_wp2_with (first
    | ((with_reducible refine at_load 23 ?_); refine load_plan rfl _ rfl N rfl rp_11 ?_)
    | ((with_reducible refine at_build 29 ?_); refine wpList_build_to rfl 29 _ rfl (sbc (bq 7)) (by rw [Array.toList_map]; exact Try.builtS 3 2 1 4 7) ?_))
  refine (sput_any w11 (bq 7)).mono ?_
  rintro e w12 ⟨rfl, hb12⟩
  rw [Hp7.out]
  have rp_12 := rp_11.below (by omega) hb12
  have rx_12 := rx_11.below (by omega) hb12
  have rs_12 := rs_11.below (by omega) hb12
  have hB_12 : Below N w w12 := hB_11.trans (hb12.mono (by omega))
  have hz_12 : Gz < w12.heap.size := by have := hb12.size; omega
  clear rp_11 rx_11 rs_11 hB_11
  clear hz_11
  go_wp2_with ((with_reducible refine at_alloc 24 ?_); refine alloc_sec rfl rfl ?_)
  intro w13 ry_13 hb13 hs13
  have rp_13 := rp_12.below (by omega) hb13
  have rx_13 := rx_12.below (by omega) hb13
  have rs_13 := rs_12.below (by omega) hb13
  have hB_13 : Below N w w13 := hB_12.trans (hb13.mono (by omega))
  clear rp_12 rx_12 rs_12 hB_12
  clear hb13
  generalize hgGy : w12.heap.size = Gy at *
  clear hgGy
  have hz_13 : Gy < w13.heap.size := by omega
  clear hs13
  go_wp2_with ((with_reducible refine at_store 24 ?_); refine store_sec rfl _ _ rfl Gy x7 rfl rfl ry_13 (Sec.cs_length _) ?_)
  intro w14 ry_14 hg14 hs14
  have rp_14 := rp_13.keep hg14 (fun e => by injection e with e; omega)
  have rx_14 := rx_13.keep hg14 (fun e => by injection e with e; omega)
  have rs_14 := rs_13.keep hg14 (fun e => by injection e with e; omega)
  have hB_14 : Below N w w14 := below_grown hB_13 hg14 (by omega) (by omega)
  have hz_14 : Gy < w14.heap.size := by omega
  clear rp_13 rx_13 rs_13 ry_13 hB_13
  clear hg14 hs14 hz_13
  go_wp2_with (first
    | ((with_reducible refine at_load 24 ?_); refine load_sec rfl _ rfl Gx rfl rx_14 ?_)
    | ((with_reducible refine at_load 24 ?_); refine load_sec rfl _ rfl Gy rfl ry_14 ?_))
  refine (schoose_any w14 x6 x7).mono ?_
  rintro e w15 ⟨rfl, hb15⟩
  rw [Hc1.out]
  have rp_15 := rp_14.below (by omega) hb15
  have rx_15 := rx_14.below (by omega) hb15
  have rs_15 := rs_14.below (by omega) hb15
  have ry_15 := ry_14.below (by omega) hb15
  have hB_15 : Below N w w15 := hB_14.trans (hb15.mono (by omega))
  have hz_15 : Gy < w15.heap.size := by have := hb15.size; omega
  clear rp_14 rx_14 rs_14 ry_14 hB_14
  clear hz_14
  clear ry_15
  go_wp2_with ((with_reducible refine at_alloc 29 ?_); refine alloc_sb rfl rfl ?_)
  intro w16 rt_16 hb16 hs16
  have rp_16 := rp_15.below (by omega) hb16
  have rx_16 := rx_15.below (by omega) hb16
  have rs_16 := rs_15.below (by omega) hb16
  have hB_16 : Below N w w16 := hB_15.trans (hb16.mono (by omega))
  clear rp_15 rx_15 rs_15 hB_15
  clear hb16
  generalize hgGt : w15.heap.size = Gt at *
  clear hgGt
  have hz_16 : Gt < w16.heap.size := by omega
  clear hs16
  go_wp2_with ((with_reducible refine at_store 29 ?_); refine store_sb rfl _ _ rfl Gt (bq 7) rfl rfl rt_16 rfl ?_)
  intro w17 rt_17 hg17 hs17
  have rp_17 := rp_16.keep hg17 (fun e => by injection e with e; omega)
  have rx_17 := rx_16.keep hg17 (fun e => by injection e with e; omega)
  have rs_17 := rs_16.keep hg17 (fun e => by injection e with e; omega)
  have hB_17 : Below N w w17 := below_grown hB_16 hg17 (by omega) (by omega)
  have hz_17 : Gt < w17.heap.size := by omega
  clear rp_16 rx_16 rs_16 rt_16 hB_16
  clear hg17 hs17 hz_16
  go_wp2_with fail
  have hzb : Gt < w17.heap.size := hz_17
  refine (dnew_any w17 5 (by omega) (by omega)).mono ?_
  rintro e w18 ⟨g, L, rfl, hD0, hb18⟩
  have rp_18 := rp_17.below (by omega) hb18
  have rx_18 := rx_17.below (by omega) hb18
  have rs_18 := rs_17.below (by omega) hb18
  have rt_18 := rt_17.below (by omega) hb18
  have hB_18 : Below N w w18 := hB_17.trans (hb18.mono (by omega))
  have hz_18 : Gt < w18.heap.size := by have := hb18.size; omega
  clear rp_17 rx_17 rs_17 rt_17 hB_17
  clear hz_17
  have HD_18 := Lib.hid hD0
  clear hD0
  generalize hbase : w17.heap.size = base at *
  have hbs_18 : base ≤ w18.heap.size := by have := hb18.size; omega
  clear hb18 hbase
  go_wp2_with fail
  refine (sbump_nil w18).mono ?_
  rintro e w19 ⟨rfl, hb19⟩
  have rp_19 := rp_18.below (by omega) hb19
  have rx_19 := rx_18.below (by omega) hb19
  have rs_19 := rs_18.below (by omega) hb19
  have rt_19 := rt_18.below (by omega) hb19
  have hB_19 : Below N w w19 := hB_18.trans (hb19.mono (by omega))
  have HD_19 := Lib.hid (HD_18.out.below hb19)
  clear HD_18
  have hbs_19 : base ≤ w19.heap.size := by have := hb19.size; omega
  have hz_19 : Gt < w19.heap.size := by have := hb19.size; omega
  clear rp_18 rx_18 rs_18 rt_18 hB_18
  clear hz_18
  go_wp2_with ((with_reducible refine at_alloc 29 ?_); refine alloc_sb rfl rfl ?_)
  intro w20 ra_20 hb20 hs20
  have rp_20 := rp_19.below (by omega) hb20
  have rx_20 := rx_19.below (by omega) hb20
  have rs_20 := rs_19.below (by omega) hb20
  have rt_20 := rt_19.below (by omega) hb20
  have hB_20 : Below N w w20 := hB_19.trans (hb20.mono (by omega))
  clear rp_19 rx_19 rs_19 rt_19 hB_19
  have hL_Ga : Hid (∀ k ∈ L, k < w19.heap.size) := fun k hk => (HD_19.out.lt hk).2
  have HD_20 := Lib.hid (HD_19.out.below hb20)
  clear HD_19
  clear hb20
  generalize hgGa : w19.heap.size = Ga at *
  clear hgGa
  have hz_20 : Ga < w20.heap.size := by omega
  clear hs20
  go_wp2_with ((with_reducible refine at_store 29 ?_); refine store_sb rfl _ _ rfl Ga sb0 rfl rfl ra_20 rfl ?_)
  intro w21 ra_21 hg21 hs21
  have rp_21 := rp_20.keep hg21 (fun e => by injection e with e; omega)
  have rx_21 := rx_20.keep hg21 (fun e => by injection e with e; omega)
  have rs_21 := rs_20.keep hg21 (fun e => by injection e with e; omega)
  have rt_21 := rt_20.keep hg21 (fun e => by injection e with e; omega)
  have hB_21 : Below N w w21 := below_grown hB_20 hg21 (by omega) (by omega)
  have HD_21 := Lib.hid (HD_20.out.but ((But.refl [Ga] w20.heap.size w20).grown hg21 (fun k e => by injection e with e; simp [e]) (Nat.le_refl _)) (fun k hk => ⟨(HD_20.out.lt hk).2, by have := hL_Ga.out k hk; simp only [List.mem_singleton]; omega⟩))
  clear HD_20 hL_Ga
  have hz_21 : Ga < w21.heap.size := by omega
  clear rp_20 rx_20 rs_20 rt_20 ra_20 hB_20
  clear hg21 hs21 hz_20
  clear ra_21
  go_wp2_with fail
  refine (sbump_bad w21 base g L (Dk.new 5) zeroSec zeroSec q0_ok HD_21.out q0_read0 q0_read1 cho_zz).mono ?_
  rintro e w22 ⟨rfl, hb22⟩
  have rp_22 := rp_21.below (by omega) hb22
  have rx_22 := rx_21.below (by omega) hb22
  have rs_22 := rs_21.below (by omega) hb22
  have rt_22 := rt_21.below (by omega) hb22
  have hB_22 : Below N w w22 := hB_21.trans (hb22.mono (by omega))
  have HD_22 := Lib.hid (HD_21.out.below hb22)
  clear HD_21
  have hbs_22 : base ≤ w22.heap.size := by have := hb22.size; omega
  have hz_22 : Ga < w22.heap.size := by have := hb22.size; omega
  clear rp_21 rx_21 rs_21 rt_21 hB_21
  clear hz_21
  go_wp2_with ((with_reducible refine at_alloc 29 ?_); refine alloc_sb rfl rfl ?_)
  intro w23 rb_23 hb23 hs23
  have rp_23 := rp_22.below (by omega) hb23
  have rx_23 := rx_22.below (by omega) hb23
  have rs_23 := rs_22.below (by omega) hb23
  have rt_23 := rt_22.below (by omega) hb23
  have hB_23 : Below N w w23 := hB_22.trans (hb23.mono (by omega))
  clear rp_22 rx_22 rs_22 rt_22 hB_22
  have hL_Gb : Hid (∀ k ∈ L, k < w22.heap.size) := fun k hk => (HD_22.out.lt hk).2
  have HD_23 := Lib.hid (HD_22.out.below hb23)
  clear HD_22
  clear hb23
  generalize hgGb : w22.heap.size = Gb at *
  clear hgGb
  have hz_23 : Gb < w23.heap.size := by omega
  clear hs23
  go_wp2_with ((with_reducible refine at_store 29 ?_); refine store_sb rfl _ _ rfl Gb sb0 rfl rfl rb_23 rfl ?_)
  intro w24 rb_24 hg24 hs24
  have rp_24 := rp_23.keep hg24 (fun e => by injection e with e; omega)
  have rx_24 := rx_23.keep hg24 (fun e => by injection e with e; omega)
  have rs_24 := rs_23.keep hg24 (fun e => by injection e with e; omega)
  have rt_24 := rt_23.keep hg24 (fun e => by injection e with e; omega)
  have hB_24 : Below N w w24 := below_grown hB_23 hg24 (by omega) (by omega)
  have HD_24 := Lib.hid (HD_23.out.but ((But.refl [Gb] w23.heap.size w23).grown hg24 (fun k e => by injection e with e; simp [e]) (Nat.le_refl _)) (fun k hk => ⟨(HD_23.out.lt hk).2, by have := hL_Gb.out k hk; simp only [List.mem_singleton]; omega⟩))
  clear HD_23 hL_Gb
  have hz_24 : Gb < w24.heap.size := by omega
  clear rp_23 rx_23 rs_23 rt_23 rb_23 hB_23
  clear hg24 hs24 hz_23
  clear rb_24
  go_wp2_with ((with_reducible refine at_load 24 ?_); refine load_sec rfl _ rfl Gx rfl rx_24 ?_)
  have hbw : base ≤ w24.heap.size := by omega
  refine (dwrite_any w24 base g L (Dk.new 5) 1 x6 q0_ok (by decide) HD_24.out hbw).mono ?_
  rintro e w25 ⟨rfl, ht⟩
  obtain ⟨⟨L1, hD1⟩, hb25⟩ := Turned.low HD_24.out hbw ht
  have HD_25 : Hid (Disk w25 base L1 g (q1 x6)) := by rw [q1_eq] at hD1; exact hD1
  clear ht hD1 hbw HD_24
  have rp_25 := rp_24.below (by omega) hb25
  have rx_25 := rx_24.below (by omega) hb25
  have rs_25 := rs_24.below (by omega) hb25
  have rt_25 := rt_24.below (by omega) hb25
  have hB_25 : Below N w w25 := hB_24.trans (hb25.mono (by omega))
  have hbs_25 : base ≤ w25.heap.size := by have := hb25.size; omega
  have hz_25 : Gb < w25.heap.size := by have := hb25.size; omega
  clear rp_24 rx_24 rs_24 rt_24 hB_24
  clear hz_24
  go_wp2_with fail
  have hbw : base ≤ w25.heap.size := by omega
  refine (sbump_yes w25 base g L1 (q1 x6) zeroSec x6 (bq 6) 1 (q1_ok x6) (show (1 : Nat) < 900000 by omega) (show (1 : Nat) < 900000 by omega) HD_25.out hbw (q1_read0 x6) (q1_read1 x6) (cho_zx Hs6.out) bq7_ok).mono ?_
  rintro e w26 ⟨rfl, ht⟩
  rw [Hv.out.1, Hv.out.2]
  obtain ⟨⟨L2, hD2⟩, hb26⟩ := Turned.low HD_25.out hbw ht
  have HD_26 : Hid (Disk w26 base L2 g (q2 x6 x7)) := by rw [Hq2.out] at hD2; exact hD2
  clear ht hD2 hbw HD_25
  have rp_26 := rp_25.below (by omega) hb26
  have rx_26 := rx_25.below (by omega) hb26
  have rs_26 := rs_25.below (by omega) hb26
  have rt_26 := rt_25.below (by omega) hb26
  have hB_26 : Below N w w26 := hB_25.trans (hb26.mono (by omega))
  have hbs_26 : base ≤ w26.heap.size := by have := hb26.size; omega
  have hz_26 : Gb < w26.heap.size := by have := hb26.size; omega
  clear rp_25 rx_25 rs_25 rt_25 hB_25
  clear hz_25
  go_wp2_with ((with_reducible refine at_alloc 29 ?_); refine alloc_sb rfl rfl ?_)
  intro w27 ru_27 hb27 hs27
  have rp_27 := rp_26.below (by omega) hb27
  have rx_27 := rx_26.below (by omega) hb27
  have rs_27 := rs_26.below (by omega) hb27
  have rt_27 := rt_26.below (by omega) hb27
  have hB_27 : Below N w w27 := hB_26.trans (hb27.mono (by omega))
  clear rp_26 rx_26 rs_26 rt_26 hB_26
  have hL_Gu : Hid (∀ k ∈ L2, k < w26.heap.size) := fun k hk => (HD_26.out.lt hk).2
  have HD_27 := Lib.hid (HD_26.out.below hb27)
  clear HD_26
  clear hb27
  generalize hgGu : w26.heap.size = Gu at *
  clear hgGu
  have hz_27 : Gu < w27.heap.size := by omega
  clear hs27
  go_wp2_with ((with_reducible refine at_store 29 ?_); refine store_sb rfl _ _ rfl Gu (bq 7) rfl rfl ru_27 rfl ?_)
  intro w28 ru_28 hg28 hs28
  have rp_28 := rp_27.keep hg28 (fun e => by injection e with e; omega)
  have rx_28 := rx_27.keep hg28 (fun e => by injection e with e; omega)
  have rs_28 := rs_27.keep hg28 (fun e => by injection e with e; omega)
  have rt_28 := rt_27.keep hg28 (fun e => by injection e with e; omega)
  have hB_28 : Below N w w28 := below_grown hB_27 hg28 (by omega) (by omega)
  have HD_28 := Lib.hid (HD_27.out.but ((But.refl [Gu] w27.heap.size w27).grown hg28 (fun k e => by injection e with e; simp [e]) (Nat.le_refl _)) (fun k hk => ⟨(HD_27.out.lt hk).2, by have := hL_Gu.out k hk; simp only [List.mem_singleton]; omega⟩))
  clear HD_27 hL_Gu
  have hz_28 : Gu < w28.heap.size := by omega
  clear rp_27 rx_27 rs_27 rt_27 ru_27 hB_27
  clear hg28 hs28 hz_27
  go_wp2_with fail
  refine (sread_any w28 base g L2 (q2 x6 x7) x7 x6 (q2_ok x6 x7) HD_28.out (q2_read0 x6 x7) (q2_read1 x6 x7)).mono ?_
  rintro e w29 ⟨rfl, hb29⟩
  rw [Hc2.out]
  have rp_29 := rp_28.below (by omega) hb29
  have rx_29 := rx_28.below (by omega) hb29
  have rs_29 := rs_28.below (by omega) hb29
  have rt_29 := rt_28.below (by omega) hb29
  have ru_29 := ru_28.below (by omega) hb29
  have hB_29 : Below N w w29 := hB_28.trans (hb29.mono (by omega))
  have HD_29 := Lib.hid (HD_28.out.below hb29)
  clear HD_28
  have hbs_29 : base ≤ w29.heap.size := by have := hb29.size; omega
  have hz_29 : Gu < w29.heap.size := by have := hb29.size; omega
  clear rp_28 rx_28 rs_28 rt_28 ru_28 hB_28
  clear hz_28
  go_wp2_with ((with_reducible refine at_alloc 29 ?_); refine alloc_sb rfl rfl ?_)
  intro w30 rv_30 hb30 hs30
  have rp_30 := rp_29.below (by omega) hb30
  have rx_30 := rx_29.below (by omega) hb30
  have rs_30 := rs_29.below (by omega) hb30
  have rt_30 := rt_29.below (by omega) hb30
  have ru_30 := ru_29.below (by omega) hb30
  have hB_30 : Below N w w30 := hB_29.trans (hb30.mono (by omega))
  clear rp_29 rx_29 rs_29 rt_29 ru_29 hB_29
  have hL_Gv : Hid (∀ k ∈ L2, k < w29.heap.size) := fun k hk => (HD_29.out.lt hk).2
  have HD_30 := Lib.hid (HD_29.out.below hb30)
  clear HD_29
  clear hb30
  generalize hgGv : w29.heap.size = Gv at *
  clear hgGv
  have hz_30 : Gv < w30.heap.size := by omega
  clear hs30
  go_wp2_with ((with_reducible refine at_store 29 ?_); refine store_sb rfl _ _ rfl Gv (bq 7) rfl rfl rv_30 rfl ?_)
  intro w31 rv_31 hg31 hs31
  have rp_31 := rp_30.keep hg31 (fun e => by injection e with e; omega)
  have rx_31 := rx_30.keep hg31 (fun e => by injection e with e; omega)
  have rs_31 := rs_30.keep hg31 (fun e => by injection e with e; omega)
  have rt_31 := rt_30.keep hg31 (fun e => by injection e with e; omega)
  have ru_31 := ru_30.keep hg31 (fun e => by injection e with e; omega)
  have hB_31 : Below N w w31 := below_grown hB_30 hg31 (by omega) (by omega)
  have HD_31 := Lib.hid (HD_30.out.but ((But.refl [Gv] w30.heap.size w30).grown hg31 (fun k e => by injection e with e; simp [e]) (Nat.le_refl _)) (fun k hk => ⟨(HD_30.out.lt hk).2, by have := hL_Gv.out k hk; simp only [List.mem_singleton]; omega⟩))
  clear HD_30 hL_Gv
  have hz_31 : Gv < w31.heap.size := by omega
  clear rp_30 rx_30 rs_30 rt_30 ru_30 rv_30 hB_30
  clear hg31 hs31 hz_30
  have cs0 := rs_31.cell (i := 0) rfl
  have cs1 := rs_31.cell (i := 1) rfl
  have cs2 := rs_31.cell (i := 2) rfl
  have cs3 := rs_31.cell (i := 3) rfl
  have cs4 := rs_31.cell (i := 4) rfl
  have cp0 := rp_31.cell (i := 0) rfl
  have cp1 := rp_31.cell (i := 1) rfl
  have cp2 := rp_31.cell (i := 2) rfl
  have cp3 := rp_31.cell (i := 3) rfl
  have ct := rt_31.cell (i := 4) rfl
  have cu := ru_31.cell (i := 4) rfl
  have cv := rv_31.cell (i := 4) rfl
  obtain ⟨vd, vw, bm, hDA, _⟩ := HD_31.out
  have HDA := Lib.hid hDA
  clear hDA
  go_wp2_with fail
  refine (dwaits_any _ base g bm vd vw (q2 x6 x7) HDA.out).mono ?_
  rintro e wz ⟨rfl, ez⟩
  rw [ez]
  clear ez
  have hl0 : ((q2 x6 x7).wait.length : Int) = 0 := rfl
  go_wp2_with fail
  go_ret
  exact ⟨rfl, hB_31⟩
end Go.Proofs.Ytoiphbdmmiikaaa
