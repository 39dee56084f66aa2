/-
  Layer 12: the contracts of decoded and of entries.
-/
import Derived.Test.YtiglffkbaddefaaPkShlE
import Derived.Test.YtiglffkbaddefaaPkCurN
namespace Go.Proofs.Ytiglffkbaddefaa
open Go.RowKit Go.Shelf
set_option linter.unusedVariables false
set_option linter.unusedSimpArgs false

theorem leN_take8 (xs : List UInt8) {k : Nat} (hk : k ≤ 8) : leN ((xs.take k).take 8) = leN (xs.take k) := by
  rw [List.take_take, Nat.min_eq_right hk]
theorem entAt_cut {x : List UInt8} {o : Nat} (h : o + 42 ≤ x.length) : entAt ((x.drop o).take 42) 0 = entAt x o := by
  unfold entAt
  congr 1
  · apply Subtype.ext
    show List.map _ _ = List.map _ _
    apply List.map_congr_left
    intro k hk
    rw [List.mem_range] at hk
    rw [List.getD_eq_getElem?_getD, List.getD_eq_getElem?_getD, List.getElem?_take_of_lt (by omega), List.getElem?_drop]
    congr 2
    omega
  · rw [Nat.zero_add, List.drop_take, List.drop_drop, List.take_take]
    rfl
  · rw [List.drop_zero, List.take_take]
    rfl
theorem entAt_adr {x : List UInt8} (h : x.length = 42) : (entAt x 0).adr.1 = ((x.drop 8).take 32) := by
  apply List.ext_getElem?
  intro i
  unfold entAt
  by_cases hi : i < 32
  · rw [List.getElem?_map, List.getElem?_range hi, List.getElem?_take_of_lt hi, List.getElem?_drop]
    simp only [Option.map_some, Nat.zero_add]
    rw [List.getD_eq_getElem?_getD, List.getElem?_eq_getElem (by omega)]
    rfl
  · rw [List.getElem?_eq_none (by simp; omega), List.getElem?_eq_none (by rw [List.length_take, List.length_drop]; omega)]
theorem Try.builtE (a : Adr) (s c : Int) : Try.prog.built 32 [(2, .int .i64 c), (1, .int .i64 s), (0, .agg (cells a.1).toArray)] = some (Ent.mk a s c).cs.toArray := by
  obtain ⟨it, hi, hz'⟩ := Option.bind_eq_some_iff.1 Try.zeroEnt11
  have hp : (Try.prog.underlying 32).bind (fun d => match d with | .struct fields => fields.toList.mapM (fun f => (Try.prog.info? f.type).map fun i => (f.offset, i.size)) | _ => none) = some [(0, 32), (32, 1), (33, 1)] := by kernel_rfl
  obtain ⟨d, hd, hp'⟩ := Option.bind_eq_some_iff.1 hp
  cases d <;> simp only at hp' <;> try cases hp'
  rename_i fields
  unfold Program.built
  have hl : (cells a.1).length = 32 := by rw [cells_length, a.2]
  have hz : (cells zeroAdr.1).length = 32 := by rw [cells_length, zeroAdr.2]
  simp only [hi, hd, hz', hp']
  have e0 : (Value.agg zeroEnt.cs.toArray).cells = zeroEnt.cs.toArray := rfl
  have m1 : putL zeroEnt.cs 33 [.int .i64 c] = cells zeroAdr.1 ++ [.int .i64 0, .int .i64 c] := by
    have := putL_mid [.int .i64 c] (cells zeroAdr.1 ++ [.int .i64 0]) [.int .i64 0] [] rfl
    rw [List.length_append, hz] at this
    simpa [Ent.cs, zeroEnt] using this
  have m2 : putL (cells zeroAdr.1 ++ [.int .i64 0, .int .i64 c]) 32 [.int .i64 s] = cells zeroAdr.1 ++ [.int .i64 s, .int .i64 c] := by
    have := putL_mid [.int .i64 s] (cells zeroAdr.1) [.int .i64 0] [.int .i64 c] rfl
    rw [hz] at this
    simpa using this
  have m3 : putL (cells zeroAdr.1 ++ [.int .i64 s, .int .i64 c]) 0 (cells a.1) = (Ent.mk a s c).cs := by
    have := putL_mid (cells a.1) [] (cells zeroAdr.1) [.int .i64 s, .int .i64 c] (by rw [hz, hl])
    simpa [Ent.cs] using this
  rw [e0, fill_part _ _ 2 (.int .i64 c) [.int .i64 c] _ 33 1 rfl rfl rfl (by rw [Ent.cs_length]; omega), m1,
    fill_part _ _ 1 (.int .i64 s) [.int .i64 s] _ 32 1 rfl rfl rfl (by rw [List.length_append, hz]; simp), m2,
    fill_part _ _ 0 (.agg (cells a.1).toArray) (cells a.1) _ 0 32 rfl rfl hl (by rw [List.length_append, hz]; simp), m3]
  rfl

set_option maxRecDepth 100000 in
set_option maxHeartbeats 4000000 in
theorem sdec_any (w : World) (A : Option Addr) (c : Nat) (xs : List UInt8) (h : Lies w w.heap.size A xs) (hl : xs.length = 42) :
    Calls Try.prog 53 #[.slice A 42 c] w fun e w' => e = .returned (.agg (entAt xs 0).cs.toArray) ∧ Below w.heap.size w w' := by
  have HL := Lib.hid h
  have Hl := Lib.hid hl
  have b6 : Hid (cutBad xs false 6 = false) := by show _ = _; simp [cutBad, hl]
  have b2 : Hid (cutBad (xs.drop 6) false 2 = false) := by show _ = _; simp [cutBad, hl]
  have b32 : Hid (cutBad ((xs.drop 6).drop 2) false 32 = false) := by show _ = _; simp [cutBad, hl]
  have g6 : Hid (cutGot xs false 6 = xs.take 6) := by show _ = _; unfold cutGot; rw [b6.out]; rfl
  have g2 : Hid (cutGot (xs.drop 6) false 2 = (xs.drop 6).take 2) := by show _ = _; unfold cutGot; rw [b2.out]; rfl
  have g32 : Hid (cutGot ((xs.drop 6).drop 2) false 32 = ((xs.drop 6).drop 2).take 32) := by show _ = _; unfold cutGot; rw [b32.out]; rfl
  have r6 : Hid (cutRest xs false 6 = xs.drop 6) := by show _ = _; unfold cutRest; rw [b6.out]; rfl
  have r2 : Hid (cutRest (xs.drop 6) false 2 = (xs.drop 6).drop 2) := by show _ = _; unfold cutRest; rw [b2.out]; rfl
  have n6 : Hid (leN ((xs.take 6).take 8) = leN (xs.take 6)) := leN_take8 xs (by omega)
  have n2 : Hid (leN (((xs.drop 6).take 2).take 8) = leN ((xs.drop 6).take 2)) := leN_take8 _ (by omega)
  have l6 := leN_take_lt xs 6
  have l2 := leN_take_lt (xs.drop 6) 2
  have He : Hid ((Ent.mk (entAt xs 0).adr ((leN ((xs.drop 6).take 2) : Nat) : Int) ((leN (xs.take 6) : Nat) : Int)) = entAt xs 0) := rfl
  have Hadr := Lib.hid (entAt_adr hl)
  have hap : ∀ W A len cap, 32 ≤ len → (Instr.arrayAt 30 (.slice A len cap)).run Try.prog W = .ok (.pointer A) W := fun W A len cap h => run_arrayAt Try.underlying30 A len cap h
  clear h hl
  go_enter Try.func53, Try.ntmps53
  go_wp2_with ((with_reducible refine at_alloc 32 ?_); refine wpList_alloc_rowV rfl 32 rfl zeroEnt.cs Try.zeroEnt11 ?_)
  intro w1 hr1 hb1 hs1
  obtain ⟨N, hN⟩ : ∃ N, w.heap.size = N := ⟨_, rfl⟩
  rw [hN] at hr1 hb1 hs1 HL
  go_wp2_with fail
  refine (from_any A 42 c xs w1 ((HL.out.below hb1).le (by omega)) Hl.out.symm (by omega)).mono ?_
  rintro e w2 ⟨gc, rfl, hgc, hc2, hb2⟩
  have hr2 := hr1.below (by omega) hb2
  have hB2 : Below N w w2 := hb1.trans (hb2.mono (by omega))
  have hs2 : N + 1 ≤ w2.heap.size := by have := hb2.size; omega
  have hgc1 : N + 1 ≤ gc := by omega
  clear hr1 hb1 hb2 hs1 hgc
  go_wp2_with fail
  refine (num_any w2 gc xs false 6 hc2 (by rw [Hl.out]; omega)).mono ?_
  rw [b6.out, g6.out, r6.out, n6.out]
  rintro e w3 ⟨rfl, hc3, hg3⟩
  have hr3 := hr2.keep hg3 (fun e => by injection e with e; omega)
  have hB3 : Below N w w3 := hB2.grown hg3 (by omega) (fun k e => by injection e with e; omega)
  have hs3 : N + 1 ≤ w3.heap.size := by have := hg3.size; omega
  obtain ⟨n1, hn1⟩ : ∃ n1, leN (xs.take 6) = n1 := ⟨_, rfl⟩
  rw [hn1] at He l6 ⊢
  clear hr2 hc2 hg3 hB2 hs2 hn1
  go_wp2_with fail
  refine (num_any w3 gc (xs.drop 6) false 2 hc3 (by rw [List.length_drop, Hl.out]; omega)).mono ?_
  rw [b2.out, g2.out, r2.out, n2.out]
  rintro e w4 ⟨rfl, hc4, hg4⟩
  have hr4 := hr3.keep hg4 (fun e => by injection e with e; omega)
  have hB4 : Below N w w4 := hB3.grown hg4 (by omega) (fun k e => by injection e with e; omega)
  have hs4 : N + 1 ≤ w4.heap.size := by have := hg4.size; omega
  obtain ⟨n2, hn2⟩ : ∃ n2, leN ((xs.drop 6).take 2) = n2 := ⟨_, rfl⟩
  rw [hn2] at He l2 ⊢
  clear hr3 hc3 hg4 hB3 hs3 hn2
  go_wp2_with fail
  refine (bytes_any w4 gc ((xs.drop 6).drop 2) false 32 hc4 (by rw [List.length_drop, List.length_drop, Hl.out]; omega)).mono ?_
  unfold RetCut
  rw [b32.out, g32.out]
  rintro e w5 ⟨⟨A5, c5, rfl, hc51, hc52, hl5, hg5⟩, _⟩
  have hr5 := hr4.keep hg5 (fun e => by injection e with e; omega)
  have hB5 : Below N w w5 := hB4.grown hg5 (by omega) (fun k e => by injection e with e; omega)
  have hs5 : N + 1 ≤ w5.heap.size := by have := hg5.size; omega
  have h32 : ((((xs.drop 6).drop 2).take 32).length) = 32 := by rw [List.length_take, List.length_drop, List.length_drop, Hl.out]; omega
  rw [List.drop_drop] at hl5
  rw [show 6 + 2 = 8 from rfl, ← Hadr.out] at hl5
  obtain ⟨ad, had⟩ : ∃ ad, (entAt xs 0).adr = ad := ⟨_, rfl⟩
  rw [had] at He hl5
  obtain ⟨b5, o5, hA5, hb5, hcell5⟩ := hl5 (by intro h0; have := ad.2; rw [h0] at this; cases this)
  subst hA5
  have q5 : Hid (w5.rangeAt b5 o5 (cells ad.1)) := fun j u hj => by
    obtain ⟨x, hx, rfl⟩ := cells_of hj
    exact hcell5 j x hx
  have HszA := Lib.hid (adr_size ad)
  rw [h32]
  clear hr4 hc4 hg5 hB4 hs4 had hl5 hcell5 hc51 h32
  go_wp2_with (first
    | ((with_reducible refine at_load 30 ?_); refine wpList_load_mid rfl 30 _ rfl b5 o5 rfl (cells ad.1) _ q5.out Try.underlying30 rfl HszA.out ?_)
    | ((with_reducible refine at_build 32 ?_); refine wpList_build_to rfl 32 _ rfl (Ent.mk ad (n2 : Int) (n1 : Int)).cs (by rw [Array.toList_map]; exact Try.builtE _ _ _) ?_)
    | ((with_reducible refine at_store 32 ?_); refine wpList_store_rowV rfl 32 _ _ rfl N (Ent.mk ad (n2 : Int) (n1 : Int)).cs rfl rfl 32 zeroEnt.cs hr5 (by rw [List.size_toArray]; exact ent_size _) (by rw [List.size_toArray, List.size_toArray, Ent.cs_length, Ent.cs_length]) (all_oneCell_toArray (Ent.one _)) ?_; intro w6 hr6 hg6 hs6))
  exact bodyPost_ret (results_cell_row (fn := Try.f53) rfl _ _ N 32 _ (0, 0) _ rfl hr6 Try.underlying32 rfl (by rw [List.size_toArray]; exact ent_size _)) rfl ⟨by rw [He.out], by rw [hN]; exact below_grown hB5 hg6 (Nat.le_refl _) (by omega)⟩

/-- The first k places read, the rest noughts. -/
def partU (x : List UInt8) (k : Nat) : List Ent := (unSix x).take k ++ List.replicate (6 - k) zeroEnt
theorem partU_length {x : List UInt8} {k : Nat} (hk : k ≤ 6) : (partU x k).length = 6 := by simp [partU, unSix_length]; omega
theorem unSix_get {x : List UInt8} {k : Nat} (hk : k < 6) : (unSix x)[k]? = some (entAt x (k * 42)) := by
  rw [unSix, List.getElem?_map, List.getElem?_range hk, Nat.mul_comm]
  rfl
theorem partU_set {x : List UInt8} {k : Nat} (hk : k < 6) : (partU x k).set k (entAt x (k * 42)) = partU x (k + 1) := by
  have hl : ((unSix x).take k).length = k := by rw [List.length_take, unSix_length]; omega
  unfold partU
  rw [List.set_append_right _ _ (by omega), hl, Nat.sub_self, show 6 - k = (6 - (k + 1)) + 1 by omega, List.replicate_succ, List.set_cons_zero, List.take_add_one, unSix_get hk, List.append_assoc]
  rfl
theorem partU_all (x : List UInt8) : partU x 6 = unSix x := by
  unfold partU
  rw [List.take_of_length_le (by rw [unSix_length]; exact Nat.le_refl _)]
  simp
theorem lies_cutS {w : World} {g : Nat} {t : TypeId} {x : Sec} (h : RowV w g t x.cs) (o n : Nat) : Lies w w.heap.size (some ⟨g, o, none⟩) ((x.1.drop o).take n) := fun _ =>
  ⟨g, o, rfl, h.lt, fun i y hi => by
    have hin : i < n := by have := (List.getElem?_eq_some_iff.1 hi).1; rw [List.length_take] at this; omega
    rw [List.getElem?_take_of_lt hin, List.getElem?_drop] at hi
    exact h.cell (cells_get hi)⟩

set_option maxRecDepth 100000 in
set_option maxHeartbeats 4000000 in
theorem sentries_any (w : World) (x : Sec) :
    Calls Try.prog 34 #[.agg x.cs.toArray] w fun e w' => ∃ g, e = .returned (.slice (some ⟨g, 0, none⟩) 6 6) ∧ w'.ownsRow w.heap.size 32 34 (.slice (some ⟨g, 0, none⟩) 6 6) 6 (ents (unSix x.1)) ∧ Below w.heap.size w w' := by
  obtain ⟨i0, hi, hz0, hz1, hz2⟩ := info_parts Try.infoE
  have Hx := Lib.hid x.2
  have hsl : ∀ W g, (Instr.sliceAt 43 (.pointer (some ⟨g, 0, none⟩)) none none none).run Try.prog W = .ok (.slice (some ⟨g, 0, none⟩) 256 256) W := fun W g => run_slice_arr_all Try.underlying43 Try.size5 g
  go_enter Try.func34, Try.ntmps34
  go_wp2_with ((with_reducible refine at_box 43 ?_); refine wpList_box_rowV rfl 43 _ rfl x.cs rfl ?_)
  intro w1 hr1 hb1 hs1
  obtain ⟨N, hN⟩ : ∃ N, w.heap.size = N := ⟨_, rfl⟩
  rw [hN] at hr1 hb1 hs1
  go_wp2_with (at_make; refine wpList_make_full _ rfl _ _ 22 rfl w1.heap.size 32 i0 (.agg zeroEnt.cs.toArray) 34 Try.underlying22 hi hz0 hz1 .i64 .i64 _ _ 6 rfl rfl rfl rfl (by rw [hz2]; omega) (by unfold maxLen; omega) (Nat.le_refl _) ?_)
  intro w2 hown hg2
  have hz6 := zero_ents 6
  rw [show 6 * 34 = 204 from rfl] at hz6
  rw [hz6, show List.replicate 6 zeroEnt = partU x.1 0 from rfl] at hown
  clear hz6
  have hb2 : Below w1.heap.size w1 w2 := (Below.refl _ _).grown hg2 (Nat.le_refl _) (by simp)
  have HR2 := Lib.hid (hr1.below (by omega) hb2)
  have HB2 : Hid (Below N w w2) := hb1.trans (hb2.mono (by omega))
  have hz2' : N + 1 < w2.heap.size := by have := own_lt hown rfl; omega
  obtain ⟨g, hg⟩ : ∃ g, N + 1 = g := ⟨_, rfl⟩
  have HO2 : Hid (w2.ownsRow g 32 34 (.slice (some ⟨g, 0, none⟩) 6 6) 6 (ents (partU x.1 0))) := by show World.ownsRow _ _ _ _ _ _ _; rw [← hg]; exact hown
  rw [hg] at hz2' ⊢
  have hgN : N < g := by omega
  clear hown hg2 hb2 hr1 hb1 hs1 hg
  go_wp2_with fail
  go_loopw [8] (fun v W => ∃ k : Nat, k ≤ 6 ∧ v = .int .i64 k ∧ Hid (W.ownsRow g 32 34 (.slice (some ⟨g, 0, none⟩) 6 6) 6 (ents (partU x.1 k))) ∧ Hid (RowV W N 43 x.cs) ∧ Hid (Below N w W)) (fun v _ => 6 - (intOf v).toNat)
  case atStart => exact ⟨0, Nat.zero_le _, rfl, HO2, HR2, HB2⟩
  case round =>
    obtain ⟨k, hk, rfl, HO, HR, HB⟩ := hrel
    clear HO2 HR2 HB2 hz2'
    by_cases hlt : k < 6
    · have hlt' : (k : Int) < 6 := by omega
      have hk0 : (0 : Int) ≤ (k : Int) := by omega
      have Hset := Lib.hid (partU_set (x := x.1) hlt)
      have Hlen : Hid ((((x.1.drop (k * 42)).take 42).length) = 42) := by show _ = _; rw [List.length_take, List.length_drop, Hx.out]; omega
      have He := Lib.hid (entAt_cut (x := x.1) (o := k * 42) (by rw [Hx.out]; omega))
      have Hli := Lib.hid (lies_cutS HR.out (k * 42) 42)
      have hgz : g < wr.heap.size := own_lt HO.out rfl
      go_wp2_with fail
      refine (scut_any wr N 256 256 k (by omega) (by omega) (by omega) (by omega)).mono ?_
      rintro e w3 ⟨rfl, hw⟩
      rw [hw]
      clear hw w3
      go_wp2_with fail
      refine (sdec_any wr _ 42 ((x.1.drop (k * 42)).take 42) Hli.out Hlen.out).mono ?_
      rintro e w3 ⟨rfl, hb3⟩
      rw [He.out]
      have HO3 := Lib.hid (own_below HO.out hb3)
      have HR3 : Hid (RowV w3 N 43 x.cs) := HR.out.below (by omega) hb3
      have HB3 : Hid (Below N w w3) := HB.out.trans (hb3.mono (by omega))
      have hz3 : g < w3.heap.size := by have := hb3.size; omega
      have ht := own_there HO3.out (k * 34) 34 (by omega)
      obtain ⟨en, hen⟩ : ∃ en, entAt x.1 (k * 42) = en := ⟨_, rfl⟩
      rw [hen] at Hset ⊢
      clear HO HR HB hb3 Hli hgz hen
      go_wp2_with ((with_reducible refine at_store 32 ?_); refine wpList_store_midV rfl 32 _ _ rfl g (k * 34) en.cs rfl rfl (by rw [List.size_toArray, Ent.cs_length]; exact ht) (by rw [List.size_toArray]; exact ent_size _) (all_oneCell_toArray (Ent.one _)) ?_; intro w4 hw4; subst hw4)
      have hput := own_put en.cs (k * 34) w3 _ HO3.out (by rw [Ent.cs_length]; omega)
      rw [ents_put (by rw [partU_length hk]; exact hlt), Hset.out] at hput
      have HO4 := Lib.hid hput.1
      have HR4 : Hid (RowV (w3.setCells g (k * 34) en.cs) N 43 x.cs) := HR3.out.keep hput.2 (fun e => by injection e with e; omega)
      have HB4 : Hid (Below N w (w3.setCells g (k * 34) en.cs)) := HB3.out.grown hput.2 (by omega) (fun j e => by injection e with e; omega)
      clear HO3 HR3 HB3 ht hput hz3
      go_wp2_with fail
      go_roundw
      case rel => exact ⟨k + 1, by omega, by go_num, HO4, HR4, HB4⟩
      case measure => simp [intOf]; omega
    · obtain rfl : k = 6 := by omega
      have ho := HO.out
      rw [partU_all] at ho
      have HO3 := Lib.hid ho
      clear HO ho
      go_wp2_with fail
      go_ret
      exact ⟨g, rfl, own_rebase HO3.out (fun j e => by have : g ≤ j := own_ge HO3.out j e; omega), by rw [hN]; exact HB.out⟩
end Go.Proofs.Ytiglffkbaddefaa
