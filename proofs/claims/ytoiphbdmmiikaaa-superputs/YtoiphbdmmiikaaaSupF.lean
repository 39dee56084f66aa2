/-
  Layer 8: the contracts of other, Read, Bump.
-/
import Derived.Test.YtoiphbdmmiikaaaSupE
import Derived.Test.YtoiphbdmmiikaaaDiskOk
namespace Go.Proofs.Ytoiphbdmmiikaaa
open Go.RowKit
set_option linter.unusedVariables false
set_option linter.unusedSimpArgs false

set_option maxRecDepth 100000 in
theorem other_any (w : World) (k : Nat) (hk : k = 0 ∨ k = 1) : Calls Try.prog 33 #[.int .i64 (k : Int)] w fun e w' => e = .returned (.int .i64 ((1 - k : Nat) : Int)) ∧ w' = w := by
  rcases hk with rfl | rfl
  · go_enter Try.func33, Try.ntmps33
    go_wp2_with fail
    go_ret
    exact ⟨rfl, rfl⟩
  · go_enter Try.func33, Try.ntmps33
    go_wp2_with fail
    go_ret
    exact ⟨rfl, rfl⟩

set_option maxRecDepth 100000 in
set_option maxHeartbeats 2000000 in
theorem sread_nil (w : World) : Calls Try.prog 19 #[.pointer none] w fun e w' => e = .returned (.tuple #[.agg (sbc sb0).toArray, .int .i64 0, .int .i64 1]) ∧ Below w.heap.size w w' := by
  have hz := zeroBv
  go_enter Try.func19, Try.ntmps19
  go_wp2_with ((with_reducible refine at_alloc 29 ?_); refine alloc_sb rfl rfl ?_)
  intro w1 hr1 hb1 hs1
  go_wp2_with ((with_reducible refine at_store 29 ?_); refine store_sb rfl _ _ rfl w.heap.size sb0 rfl rfl hr1 rfl ?_)
  intro w2 hr2 hg2 hs2
  go_wp2_with fail
  exact bodyPost_ret (results_cell_tmp2 (fn := Try.f19) rfl _ _ w.heap.size 29 _ (0, 0) _ rfl (.int .i64 0) rfl (.int .i64 1) rfl hr2 Try.underlying29 rfl (sbc_size _)) rfl ⟨rfl, below_grown hb1 hg2 (Nat.le_refl _) (by omega)⟩

set_option maxRecDepth 100000 in
set_option maxHeartbeats 2000000 in
/-- Read of a disk whose two sectors can be read. -/
theorem sread_any (w : World) (base g : Nat) (L : List Nat) (d : Dk) (x y : Sec) (hk : d.Ok) (h : Disk w base L g d) (h0 : d.read 0 = (x, 0)) (h1 : d.read 1 = (y, 0)) :
    Calls Try.prog 19 #[.pointer (some ⟨g, 0, none⟩)] w fun e w' => e = .returned (.tuple #[.agg (sbc (choT x y).1).toArray, .int .i64 (choT x y).2.1, .int .i64 (choT x y).2.2]) ∧ Below w.heap.size w w' := by
  obtain ⟨vd, vw, bm, h, rfl⟩ := h
  have Hk := Lib.hid hk
  have HD := Lib.hid h
  have H0 := Lib.hid h0
  have H1 := Lib.hid h1
  clear hk h h0 h1
  go_enter Try.func19, Try.ntmps19
  go_wp2_with ((with_reducible refine at_alloc 29 ?_); refine alloc_sb rfl rfl ?_)
  intro w1 hr1 hb1 hs1
  have hz1 : w.heap.size < w1.heap.size := by omega
  clear hs1
  generalize hN : w.heap.size = N at *
  have HD1 := Lib.hid (HD.out.below (by rw [hN]; exact hb1))
  go_wp2_with fail
  refine (dread_any w1 base g bm vd vw d 0 Hk.out HD1.out).mono ?_
  rintro e w2 ⟨rfl, hb2⟩
  rw [H0.out]
  have hr2 := hr1.below (by omega) hb2
  have hB2 : Below N w w2 := hb1.trans (hb2.mono (by omega))
  have HD2 := Lib.hid (HD1.out.below hb2)
  have hz2 : N < w2.heap.size := by have := hb2.size; omega
  clear hr1 hb1 hb2 hz1
  simp only [Sec.val]
  go_wp2_with ((with_reducible refine at_alloc 24 ?_); refine alloc_sec rfl rfl ?_)
  intro w3 hx3 hb3 hs3
  have hr3 := hr2.below (by omega) hb3
  have hB3 : Below N w w3 := hB2.trans (hb3.mono (by omega))
  have HD3 := Lib.hid (HD2.out.below hb3)
  clear hr2 hB2 hb3
  generalize hG : w2.heap.size = G at *
  clear hG
  go_wp2_with ((with_reducible refine at_store 24 ?_); refine store_sec rfl _ _ rfl G x rfl rfl hx3 (Sec.cs_length _) ?_)
  intro w4 hx4 hg4 hs4
  have hr4 := hr3.keep hg4 (fun e => by injection e with e; omega)
  have hB4 : Below N w w4 := below_grown hB3 hg4 (by omega) (by omega)
  have HD4 : Hid (DiskAt w4 base g vd vw bm d) := HD3.out.but ((But.refl [G] w3.heap.size w3).grown hg4 (fun k e => by injection e with e; simp [e]) (Nat.le_refl _)) (fun k hk => ⟨(HD3.out.lt hk).2, by have := (HD.out.lt hk).2; simp; omega⟩)
  have hz4 : G < w4.heap.size := by omega
  clear hr3 hB3 hx3 hg4 hs4 hs3
  go_wp2_with fail
  refine (dread_any w4 base g bm vd vw d 1 Hk.out HD4.out).mono ?_
  rintro e w5 ⟨rfl, hb5⟩
  rw [H1.out]
  have hr5 := hr4.below (by omega) hb5
  have hx5 := hx4.below (by omega) hb5
  have hB5 : Below N w w5 := hB4.trans (hb5.mono (by omega))
  have hz5 : G < w5.heap.size := by have := hb5.size; omega
  clear hr4 hx4 hB4 hb5 hz4
  simp only [Sec.val]
  go_wp2_with ((with_reducible refine at_alloc 24 ?_); refine alloc_sec rfl rfl ?_)
  intro w6 hy6 hb6 hs6
  have hr6 := hr5.below (by omega) hb6
  have hx6 := hx5.below (by omega) hb6
  have hB6 : Below N w w6 := hB5.trans (hb6.mono (by omega))
  clear hr5 hx5 hB5 hb6
  generalize hG2 : w5.heap.size = G2 at *
  clear hG2
  go_wp2_with ((with_reducible refine at_store 24 ?_); refine store_sec rfl _ _ rfl G2 y rfl rfl hy6 (Sec.cs_length _) ?_)
  intro w7 hy7 hg7 hs7
  have hr7 := hr6.keep hg7 (fun e => by injection e with e; omega)
  have hx7 := hx6.keep hg7 (fun e => by injection e with e; omega)
  have hB7 : Below N w w7 := below_grown hB6 hg7 (by omega) (by omega)
  have hz7 : G2 < w7.heap.size := by omega
  clear hr6 hx6 hB6 hy6 hg7 hs7 hs6
  go_wp2_with (first
    | ((with_reducible refine at_load 24 ?_); refine load_sec rfl _ rfl G rfl hx7 ?_)
    | ((with_reducible refine at_load 24 ?_); refine load_sec rfl _ rfl G2 rfl hy7 ?_))
  refine (schoose_any w7 x y).mono ?_
  rintro e w8 ⟨rfl, hb8⟩
  have hr8 := hr7.below (by omega) hb8
  have hB8 : Below N w w8 := hB7.trans (hb8.mono (by omega))
  have hz8 : N < w8.heap.size := by have := hb8.size; omega
  clear hr7 hx7 hy7 hB7 hb8
  go_wp2_with ((with_reducible refine at_store 29 ?_); refine store_sb rfl _ _ rfl N (choT x y).1 rfl rfl hr8 rfl ?_)
  intro w9 hr9 hg9 hs9
  go_wp2_with fail
  exact bodyPost_ret (results_cell_tmp2 (fn := Try.f19) rfl _ _ N 29 _ (0, 0) _ rfl (.int .i64 (choT x y).2.1) rfl (.int .i64 (choT x y).2.2) rfl hr9 Try.underlying29 rfl (sbc_size _)) rfl ⟨rfl, by rw [hN]; exact below_grown hB8 hg9 (Nat.le_refl _) (by omega)⟩
end Go.Proofs.Ytoiphbdmmiikaaa
