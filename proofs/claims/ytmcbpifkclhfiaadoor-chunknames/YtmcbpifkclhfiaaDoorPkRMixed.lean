/-
  The contract of the reference's mixed (layer 3).
-/
import Derived.Test.YtmcbpifkclhfiaaDoorPkMixC
import Derived.Test.YtmcbpifkclhfiaaDoorPkRPadd
namespace Go.Proofs.YtmcbpifkclhfiaaDoor
open Go.RowKit
set_option linter.unusedVariables false

def no8 : List (BitVec 32) := [0#32, 0#32, 0#32, 0#32, 0#32, 0#32, 0#32, 0#32]
theorem Tryd.zero8 : (Tryd.prog.info? 59).bind (·.zero) = some (.agg (wcells no8).toArray) := by kernel_rfl
theorem Tryd.size8 : (Tryd.prog.info? 59).map (·.size) = some 8 := by kernel_rfl

set_option maxRecDepth 100000 in
set_option maxHeartbeats 2000000 in
theorem mixed_any (s : St) (gK : Nat) (ws : List (BitVec 32)) (hws : ws.length = 64) (w : World) (hrK0 : RowV w gK 58 (wcells shaK)) :
    Calls Tryd.prog 39 #[.agg (wcells s.list).toArray, .slice (some ⟨gK, 0, none⟩) 64 64, .agg (wcells ws).toArray] w fun e w' => e = .returned (.agg (wcells (mixW s ws).list).toArray) ∧ Below w.heap.size w w' := by
  have Hws := Lib.hid hws
  clear hws
  go_enter Tryd.func39, Tryd.ntmps39
  go_wp2_with (with_reducible refine at_box 59 ?_; refine wpList_box_rowV rfl 59 _ rfl (wcells s.list) rfl ?_)
  intro w1 hr1 hb1 hs1
  go_wp2_with (with_reducible refine at_box 61 ?_; refine wpList_box_rowV rfl 61 _ rfl (wcells ws) rfl ?_)
  intro w2 hr2 hb2 hs2
  go_wp2_with (with_reducible refine at_alloc 59 ?_; refine wpList_alloc_rowV rfl 59 rfl (wcells no8) Tryd.zero8 ?_)
  intro w3 hr3 hb3 hs3
  have hgK := hrK0.lt
  have hB0 : Below w.heap.size w w3 := hb1.trans ((hb2.mono (by omega)).trans (hb3.mono (by omega)))
  have hrK1 := hrK0.below hgK hB0
  have hrS0 := (hr1.below (by omega) hb2).below (by omega) hb3
  have hrW0 := hr2.below (by omega) hb3
  clear hr1 hb1 hs1 hr2 hb2 hs2 hb3 hs3 hrK0 hgK
  have hlt1 : w.heap.size < w.heap.size + 1 := by omega
  have hlt2 : w.heap.size + 1 < w.heap.size + 1 + 1 := by omega
  generalize hg3 : w.heap.size + 1 + 1 = gR at *
  generalize hg2 : w.heap.size + 1 = gW at *
  clear hg3 hg2
  have c0 := hrS0.word (i := 0) (by rw [St.list_length]; omega)
  have c1 := hrS0.word (i := 1) (by rw [St.list_length]; omega)
  have c2 := hrS0.word (i := 2) (by rw [St.list_length]; omega)
  have c3 := hrS0.word (i := 3) (by rw [St.list_length]; omega)
  have c4 := hrS0.word (i := 4) (by rw [St.list_length]; omega)
  have c5 := hrS0.word (i := 5) (by rw [St.list_length]; omega)
  have c6 := hrS0.word (i := 6) (by rw [St.list_length]; omega)
  have c7 := hrS0.word (i := 7) (by rw [St.list_length]; omega)
  change _ = some (Value.int .u32 (nv s.a)) at c0
  change _ = some (Value.int .u32 (nv s.b)) at c1
  change _ = some (Value.int .u32 (nv s.c)) at c2
  change _ = some (Value.int .u32 (nv s.d)) at c3
  change _ = some (Value.int .u32 (nv s.e)) at c4
  change _ = some (Value.int .u32 (nv s.f)) at c5
  change _ = some (Value.int .u32 (nv s.g)) at c6
  change _ = some (Value.int .u32 (nv s.h)) at c7
  have hl8 := Tryd.lenS
  go_wp2_with fail
  clear c0 c1 c2 c3 c4 c5 c6 c7
  go_loopw [7, 8, 9, 10, 11, 12, 13, 14, 15] (fun va vb vc vd ve vf vg vh i W => ∃ k : Nat, k ≤ 64 ∧ i = .int .i64 k ∧ va = .int .u32 (nv (rnds s shaK ws k).a) ∧ vb = .int .u32 (nv (rnds s shaK ws k).b) ∧ vc = .int .u32 (nv (rnds s shaK ws k).c) ∧ vd = .int .u32 (nv (rnds s shaK ws k).d) ∧ ve = .int .u32 (nv (rnds s shaK ws k).e) ∧ vf = .int .u32 (nv (rnds s shaK ws k).f) ∧ vg = .int .u32 (nv (rnds s shaK ws k).g) ∧ vh = .int .u32 (nv (rnds s shaK ws k).h) ∧ RowV W w.heap.size 59 (wcells s.list) ∧ RowV W gW 61 (wcells ws) ∧ RowV W gR 59 (wcells no8) ∧ RowV W gK 58 (wcells shaK) ∧ Below w.heap.size w W) (fun _ _ _ _ _ _ _ _ i _ => 64 - (intOf i).toNat)
  case atStart => exact ⟨0, Nat.zero_le _, rfl, rfl, rfl, rfl, rfl, rfl, rfl, rfl, rfl, hrS0, hrW0, hr3, hrK1, hB0⟩
  case round =>
    obtain ⟨k, hk, rfl, rfl, rfl, rfl, rfl, rfl, rfl, rfl, rfl, hrS, hrW, hrR, hrK, hB⟩ := hrel
    clear hrS0 hrW0 hr3 hrK1 hB0
    by_cases hlt : k < 64
    · have Hstep : Hid (rnds s shaK ws (k + 1) = (rnds s shaK ws k).rnd (shaK.getD k 0#32) (ws.getD k 0#32)) := by show _ = _; exact Eq.refl _
      generalize hR : rnds s shaK ws k = R at *
      clear hR
      obtain ⟨a, b, c, d, e, f, g', hh⟩ := R
      have hK := hrK.word (i := k) (by exact hlt)
      have hX := hrW.word (i := k) (by rw [Hws.out]; exact hlt)
      generalize hKK : shaK.getD k 0#32 = K at *
      clear hKK
      generalize ws.getD k 0#32 = X at *
      have n1 := nv_bd a
      have n2 := nv_bd b
      have n3 := nv_bd c
      have n4 := nv_bd d
      have n5 := nv_bd e
      have n6 := nv_bd f
      have n7 := nv_bd g'
      have n8 := nv_bd hh
      have n9 := nv_bd K
      have n10 := nv_bd X
      have hd : decide ((k : Int) < 64) = true := decide_eq_true (by omega)
      have hlW := Tryd.lenW
      have b0 : (k : Int) < 64 := by omega
      have x1 := xor_nat (rot e 6) (rot e 11)
      have x2 : bits .xor .u32 (nv (rot e 6 ^^^ rot e 11)) (nv (rot e 25)) = nv (bg1 e) := xor_nat (rot e 6 ^^^ rot e 11) (rot e 25)
      have a1 := add_wrap hh (bg1 e)
      have q1 := and_nat e f
      have q2 := sub_wrap e
      have q3 := and_nat (~~~ e) g'
      have x3 : bits .xor .u32 (nv (e &&& f)) (nv (~~~ e &&& g')) = nv (chz e f g') := xor_nat (e &&& f) (~~~ e &&& g')
      have a2 := add_wrap (hh + bg1 e) (chz e f g')
      have a3 := add_wrap (hh + bg1 e + chz e f g') K
      have a4 := add_wrap (hh + bg1 e + chz e f g' + K) X
      go_wp2_with fail
      refine wp_region_still_tail 28 (by kernel_rfl) (by kernel_rfl) ?_
      simp only [List.take_succ_cons, List.take_zero, List.drop_succ_cons, List.drop_zero]
      iterate 2 still_step
      still_call (still_ofB (rotr_any e 6 (by omega) (by omega) _))
      still_step
      still_call (still_ofB (rotr_any e 11 (by omega) (by omega) _))
      iterate 2 still_step
      still_call (still_ofB (rotr_any e 25 (by omega) (by omega) _))
      iterate 20 still_step
      refine wpStill_nil ?_
      change wpList _ _ _ _ _ wr.drew
      clear x1 x2 a1 q1 q2 q3 x3 a2 a3 a4 hK hX
      replace hrS := hrS.drew
      replace hrW := hrW.drew
      replace hrR := hrR.drew
      replace hrK := hrK.drew
      replace hB := hB.drew
      generalize wr.drew = wd at *
      have HT : Hid (hh + bg1 e + chz e f g' + K + X = St.t1 ⟨a, b, c, d, e, f, g', hh⟩ K X) := rfl
      generalize hh + bg1 e + chz e f g' + K + X = T at *
      have nT := nv_bd T
      go_wp2_with fail
      refine (rotr_any a 2 (by omega) (by omega) _).mono ?_
      rintro e' w' ⟨rfl, rfl⟩
      go_wp2_with fail
      refine (rotr_any a 13 (by omega) (by omega) _).mono ?_
      rintro e' w' ⟨rfl, rfl⟩
      go_wp2_with fail
      refine (rotr_any a 22 (by omega) (by omega) _).mono ?_
      rintro e' w' ⟨rfl, rfl⟩
      have x1 := xor_nat (rot a 2) (rot a 13)
      have x2 : bits .xor .u32 (nv (rot a 2 ^^^ rot a 13)) (nv (rot a 22)) = nv (bg0 a) := xor_nat (rot a 2 ^^^ rot a 13) (rot a 22)
      have q1 := and_nat a b
      have q2 := and_nat a c
      have q3 := and_nat b c
      have x3 := xor_nat (a &&& b) (a &&& c)
      have x4 : bits .xor .u32 (nv (a &&& b ^^^ a &&& c)) (nv (b &&& c)) = nv (maj a b c) := xor_nat (a &&& b ^^^ a &&& c) (b &&& c)
      have a1 := add_nat (bg0 a) (maj a b c)
      have a2 := add_nat T (bg0 a + maj a b c)
      have a3 := add_nat d T
      go_wp2
      go_roundw
      case rel =>
        refine ⟨k + 1, by omega, by go_num, ?_, ?_, ?_, ?_, ?_, ?_, ?_, ?_, hrS, hrW, hrR, hrK, hB⟩
        all_goals rw [Hstep.out]
        · show Value.int .u32 (nv (T + (bg0 a + maj a b c))) = Value.int .u32 (nv (St.t1 _ K X + St.t2 _))
          rw [← HT.out]
          exact Eq.refl _
        · exact Eq.refl _
        · exact Eq.refl _
        · exact Eq.refl _
        · show Value.int .u32 (nv (d + T)) = Value.int .u32 (nv (d + St.t1 _ K X))
          rw [← HT.out]
        · exact Eq.refl _
        · exact Eq.refl _
        · exact Eq.refl _
      case measure => simp [intOf]; omega
    · obtain rfl : k = 64 := by omega
      have Hm : Hid (mixW s ws = s.add (rnds s shaK ws 64)) := by show _ = _; unfold mixW; exact Eq.refl _
      generalize hR : rnds s shaK ws 64 = R at *
      clear hR
      obtain ⟨a, b, c, d, e, f, g', hh⟩ := R
      have c0 := hrS.word (i := 0) (by rw [St.list_length]; omega)
      have c1 := hrS.word (i := 1) (by rw [St.list_length]; omega)
      have c2 := hrS.word (i := 2) (by rw [St.list_length]; omega)
      have c3 := hrS.word (i := 3) (by rw [St.list_length]; omega)
      have c4 := hrS.word (i := 4) (by rw [St.list_length]; omega)
      have c5 := hrS.word (i := 5) (by rw [St.list_length]; omega)
      have c6 := hrS.word (i := 6) (by rw [St.list_length]; omega)
      have c7 := hrS.word (i := 7) (by rw [St.list_length]; omega)
      change _ = some (Value.int .u32 (nv s.a)) at c0
      change _ = some (Value.int .u32 (nv s.b)) at c1
      change _ = some (Value.int .u32 (nv s.c)) at c2
      change _ = some (Value.int .u32 (nv s.d)) at c3
      change _ = some (Value.int .u32 (nv s.e)) at c4
      change _ = some (Value.int .u32 (nv s.f)) at c5
      change _ = some (Value.int .u32 (nv s.g)) at c6
      change _ = some (Value.int .u32 (nv s.h)) at c7
      have a0 := add_nat s.a a
      have a1 := add_nat s.b b
      have a2 := add_nat s.c c
      have a3 := add_nat s.d d
      have a4 := add_nat s.e e
      have a5 := add_nat s.f f
      have a6 := add_nat s.g g'
      have a7 := add_nat s.h hh
      have hd : decide (((64 : Nat) : Int) < 64) = false := by decide
      have Hsz : Hid ((Tryd.prog.info? 59).map (·.size) = some ((wcells (s.add ⟨a, b, c, d, e, f, g', hh⟩).list).toArray).size) := by show _ = _; rw [Tryd.size8, List.size_toArray, wcells_length]; rfl
      have Hold : Hid (((wcells no8).toArray).size = ((wcells (s.add ⟨a, b, c, d, e, f, g', hh⟩).list).toArray).size) := by show _ = _; rw [List.size_toArray, List.size_toArray, wcells_length, wcells_length]; rfl
      go_wp2_with ((with_reducible refine at_store 59 ?_); refine wpList_store_row rfl 59 _ _ rfl gR (wcells (s.add ⟨a, b, c, d, e, f, g', hh⟩).list).toArray rfl rfl 59 _ hrR Hsz.out Hold.out (wcells_oneCell _) ?_)
      refine bodyPost_ret (results_cell_row (fn := Tryd.f39) rfl _ _ gR 59 _ (0, 0) _ rfl (hrR.put (wcells (s.add ⟨a, b, c, d, e, f, g', hh⟩).list)) Tryd.underlying59 rfl Hsz.out) rfl ⟨by rw [Hm.out], ?_⟩
      exact below_setRow hB (by omega) _
end Go.Proofs.YtmcbpifkclhfiaaDoor
