/-
  Layer 9: the contract of the laws' list.
-/
import Derived.Test.YtgkmbnmelepenaaPkJrnV
import Derived.Test.YtgkmbnmelepenaaPkBuildS
import Derived.Test.YtgkmbnmelepenaaPkFillN
import Derived.Test.YtgkmbnmelepenaaPkSlotF
import Derived.Deep.RegionHeld3
namespace Go.Proofs.Ytgkmbnmelepenaa
open Go.RowKit
set_option linter.unusedVariables false
set_option linter.unusedSimpArgs false

/-- A sector number and the byte that fills the sector. -/
abbrev PutI := Int × UInt8
def PutI.cs (p : PutI) : List Value := [.int .i64 p.1, .int .u8 (p.2.toNat : Int)]
def puts (l : List PutI) : List Value := l.flatMap PutI.cs
def PutI.chi (p : PutI) : ChI := (p.1, fillSec p.2)
theorem LiesV.put_at {w : World} {B : Nat} {A : Option Addr} {l : List PutI} (h : LiesV w B A (puts l)) {k : Nat} {p : PutI} (hk : l[k]? = some p) : ∃ b o, A = some ⟨b, o, none⟩ ∧ w.cell? ⟨b, o + k * 2, none⟩ = some (.int .i64 p.1) ∧ w.cell? ⟨b, o + k * 2 + 1, none⟩ = some (.int .u8 (p.2.toNat : Int)) ∧ b < B := by
  have g0 : (puts l)[k * 2]? = some (.int .i64 p.1) := by
    have := flat_get (f := PutI.cs) (k := 2) (fun _ => rfl) hk 0 (by omega)
    exact this
  have g1 : (puts l)[k * 2 + 1]? = some (.int .u8 (p.2.toNat : Int)) := by
    have := flat_get (f := PutI.cs) (k := 2) (fun _ => rfl) hk 1 (by omega)
    exact this
  obtain ⟨b, o, hA, hb, hc⟩ := h (fun e => by rw [e] at g0; simp at g0)
  exact ⟨b, o, hA, hc _ _ g0, hc _ _ g1, hb⟩
theorem Try.infoChL : (Try.prog.info? 66).map (fun i => (i.zero, i.size, i.bytes)) = some (some (.agg chi0.cs.toArray), 257, 264) := by kernel_rfl
theorem builtChL (x : Int) (s : Sec) : Try.prog.built 66 [(0, .int .i64 x), (1, .agg s.cs.toArray)] = some (ChI.cs (x, s)).toArray := built_chg Try.zeroC9 Try.underlying66 (by kernel_rfl) x s
theorem chi0_sizeL : (Value.agg chi0.cs.toArray).cells.size = 257 := by rw [show (Value.agg chi0.cs.toArray).cells = chi0.cs.toArray from rfl, List.size_toArray, ChI.cs_length]

set_option maxRecDepth 100000 in
set_option maxHeartbeats 4000000 in
theorem jlist_any (w : World) (B : Nat) (A : Option Addr) (n c : Nat) (l : List PutI) (hl : LiesV w B A (puts l)) (hn : n = l.length) (hB : B ≤ w.heap.size) (h1000 : n ≤ 1000) :
    Calls Try.prog 9 #[.slice A n c] w fun e w' => ∃ A' c', e = .returned (.slice A' n c') ∧ n ≤ c' ∧ w'.ownsRow w.heap.size 66 257 (.slice A' n c') n (chis (l.map PutI.chi)) ∧ Below w.heap.size w w' := by
  have HL := Lib.hid hl
  have Hn := Lib.hid hn
  clear hl hn
  go_enter Try.func9, Try.ntmps9
  generalize hN : w.heap.size = N at *
  have HO0 : Hid (w.ownsRow N 66 257 (.slice none 0 0) 0 (chis ((l.map PutI.chi).take 0))) := World.ownsRow_nil _ _ _ _
  have HB0 : Hid (Below N w w) := Below.refl _ _
  have HZ0 : Hid (N ≤ w.heap.size) := by show _ ≤ _; omega
  go_wp2_with fail
  go_loopw [3, 4] (fun v3 v4 W => ∃ (k : Nat) (A3 : Option Addr) (c3 : Nat), k ≤ n ∧ v4 = .int .i64 k ∧ v3 = .slice A3 k c3 ∧ Hid (W.ownsRow N 66 257 (.slice A3 k c3) k (chis ((l.map PutI.chi).take k))) ∧ Hid (Below N w W) ∧ Hid (N ≤ W.heap.size)) (fun _ v _ => n - (intOf v).toNat)
  case atStart => exact ⟨0, none, 0, Nat.zero_le _, rfl, rfl, HO0, HB0, HZ0⟩
  case round =>
    obtain ⟨k, A3, c3, hk, rfl, rfl, HO, HB, HZ⟩ := hrel
    clear HO0 HB0 HZ0
    by_cases hlt : k < n
    · have hlt' : (k : Int) < (n : Int) := by omega
      have hk0 : (0 : Int) ≤ (k : Int) := by omega
      obtain ⟨p, hp⟩ : ∃ p, l[k]? = some p := ⟨_, List.getElem?_eq_getElem (by rw [← Hn.out]; exact hlt)⟩
      have hpc : (l.map PutI.chi)[k]? = some (p.1, fillSec p.2) := by rw [List.getElem?_map, hp]; rfl
      have Hpc := Lib.hid hpc
      have Hat := Lib.hid (fun (W : World) (hb : Below N w W) => (HL.out.below (hb.mono hB)).put_at hp)
      obtain ⟨pb, po, hA, _, _, hpb⟩ := Hat.out wr HB.out
      subst hA
      have Hat2 : Hid (∀ W : World, Below N w W → W.cell? ⟨pb, po + k * 2, none⟩ = some (.int .i64 p.1) ∧ W.cell? ⟨pb, po + k * 2 + 1, none⟩ = some (.int .u8 (p.2.toNat : Int))) := by
        intro W hb
        obtain ⟨b', o', e, h1, h2, _⟩ := Hat.out W hb
        injection e with e
        injection e with e1 e2
        subst e1 e2
        exact ⟨h1, h2⟩
      clear hp hpc Hat
      obtain ⟨at_, by_⟩ := p
      simp only at Hpc Hat2
      go_wp2_with ((with_reducible refine at_alloc 23 ?_); refine alloc_sec rfl rfl ?_)
      intro w1 hr1 hb1 hs1
      have HO1 := Lib.hid (own_below HO.out hb1)
      have HB1 := Lib.hid (HB.out.trans (hb1.mono HZ.out))
      rw [← fill_zero] at hr1
      have HR1 : Hid (RowV w1 wr.heap.size 23 (cells (fill (List.replicate 0 by_) 256))) := hr1
      have hG : N ≤ wr.heap.size := HZ.out
      have HZ1 : Hid (wr.heap.size + 1 ≤ w1.heap.size) := by show _ ≤ _; omega
      clear hr1 hb1 hs1 HO HB HZ
      generalize wr.heap.size = G at *
      go_wp2_with fail
      go_loopw [6] (fun v W => ∃ j : Nat, j ≤ 256 ∧ v = .int .i64 j ∧ Hid (RowV W G 23 (cells (fill (List.replicate j by_) 256))) ∧ Hid (W.ownsRow N 66 257 (.slice A3 k c3) k (chis ((l.map PutI.chi).take k))) ∧ Hid (Below N w W) ∧ Hid (G + 1 ≤ W.heap.size)) (fun v _ => 256 - (intOf v).toNat)
      case atStart => exact ⟨0, Nat.zero_le _, rfl, HR1, HO1, HB1, HZ1⟩
      case round =>
        obtain ⟨j, hj, rfl, HRj, HOj, HBj, HZj⟩ := hrel
        clear HR1 HO1 HB1 HZ1
        by_cases hjk : j < 256
        · have hjk' : (j : Int) < 256 := by omega
          have hj0 : (0 : Int) ≤ (j : Int) := by omega
          obtain ⟨q0, q1⟩ := Hat2.out _ HBj.out
          have hrj := HRj.out
          have hlen : j < (cells (fill (List.replicate j by_) 256)).length := by rw [cells_length, fill_length (by simp; omega)]; exact hjk
          go_wp2_with ((with_reducible refine at_store 5 ?_); refine wpList_store_slot rfl 5 _ _ rfl G j (by first | rfl | go_simp) (.int .u8 (by_.toNat : Int)) (by first | rfl | go_simp) rfl _ _ hrj hlen (by kernel_rfl) ?_)
          intro w2 hr2 hg2 hs2
          rw [fill_rep by_ j hjk] at hr2
          have K1 := Lib.hid hr2
          have K2 := Lib.hid (HOj.out.kept hg2 (.inr (own_row_apart HOj.out hrj (by decide))))
          have K3 := Lib.hid (below_grown HBj.out hg2 hG (by have := HZj.out; omega))
          have K4 : Hid (G + 1 ≤ w2.heap.size) := by have := HZj.out; show _ ≤ _; omega
          clear q0 q1 hrj hlen hr2 hg2 hs2 HRj HOj HBj HZj
          go_wp2_with fail
          go_roundw
          case rel => exact ⟨j + 1, by omega, by go_num, K1, K2, K3, K4⟩
          case measure => simp [intOf]; omega
        · obtain rfl : j = 256 := by omega
          have hr := HRj.out
          rw [fill_done] at hr
          obtain ⟨q0, _⟩ := Hat2.out _ HBj.out
          have szS := sec_size (fillSec by_)
          clear HRj
          go_wp2_with fail
          have HOd := Lib.hid (show wr.drew.ownsRow N 66 257 (.slice A3 k c3) k (chis ((l.map PutI.chi).take k)) from HOj.out)
          have HBd : Hid (Below N w wr.drew) := HBj.out.drew
          have HZd : Hid (G + 1 ≤ wr.drew.heap.size) := HZj.out
          have hS0 : wr.drew.cell? ⟨pb, po + k * 2, none⟩ = some (.int .i64 at_) ∧ RowV wr.drew G 23 (fillSec by_).cs := ⟨q0, hr.drew⟩
          refine wp_region_held_drew (S := fun W => W.cell? ⟨pb, po + k * 2, none⟩ = some (.int .i64 at_) ∧ RowV W G 23 (fillSec by_).cs) (by kernel_rfl) hS0 (fun hHeld => ?_)
          have hrd : RowV wr.drew G 23 (fillSec by_).cs := hS0.2
          clear hr q0 HOj HBj HZj hS0
          generalize wr.drew = wd at *
          refine wpAnyH_take (i := 0) (oi := ⟨_, _, _, _, _, _⟩) (v := ?_) rfl (by kernel_rfl) (by kernel_rfl) (by kernel_rfl) (fun _ _ _ h => h) (Or.inl ⟨by rfl, ?_⟩) (by assumption) ?_
          rotate_left
          · rintro W ⟨s0, s1⟩; go_simp; try with_reducible rfl
          try simp only [Act.put, List.setIfInBounds_toArray, List.set_cons_zero, List.set_cons_succ]
          refine wpAnyH_take (i := 1) (oi := ⟨_, _, _, _, _, _⟩) (v := ?_) rfl (by kernel_rfl) (by kernel_rfl) (by kernel_rfl) (fun _ _ _ h => h) (Or.inl ⟨by rfl, ?_⟩) (by assumption) ?_
          rotate_left
          · rintro W ⟨s0, s1⟩; go_simp; try with_reducible rfl
          try simp only [Act.put, List.setIfInBounds_toArray, List.set_cons_zero, List.set_cons_succ]
          refine wpAnyH_take (i := 2) (oi := ⟨_, _, _, _, _, _⟩) (v := ?_) rfl (by kernel_rfl) (by kernel_rfl) (by kernel_rfl) (fun _ _ _ h => h) (Or.inl ⟨by rfl, ?_⟩) (by assumption) ?_
          rotate_left
          · rintro W ⟨s0, s1⟩; go_simp; try with_reducible rfl
          try simp only [Act.put, List.setIfInBounds_toArray, List.set_cons_zero, List.set_cons_succ]
          refine wpAnyH_take (i := 3) (oi := ⟨_, _, _, _, _, _⟩) (v := ?_) rfl (by kernel_rfl) (by kernel_rfl) (by kernel_rfl) (fun _ _ _ h => h) (Or.inl ⟨by rfl, ?_⟩) (by assumption) ?_
          rotate_left
          · rintro W ⟨s0, s1⟩; go_simp; try with_reducible rfl
          try simp only [Act.put, List.setIfInBounds_toArray, List.set_cons_zero, List.set_cons_succ]
          refine wpAnyH_take (i := 4) (oi := ⟨_, _, _, _, _, _⟩) (v := ?_) rfl (by kernel_rfl) (by kernel_rfl) (by kernel_rfl) (fun _ _ _ h => h) (Or.inl ⟨by rfl, ?_⟩) (by assumption) ?_
          rotate_left
          · rintro W ⟨s0, s1⟩; go_simp; try with_reducible rfl
          try simp only [Act.put, List.setIfInBounds_toArray, List.set_cons_zero, List.set_cons_succ]
          refine wpAnyH_take (i := 5) (oi := ⟨_, _, _, _, _, _⟩) (v := ?_) rfl (by kernel_rfl) (by kernel_rfl) (by kernel_rfl) (fun _ _ _ h => h) (Or.inl ⟨by rfl, ?_⟩) (by assumption) ?_
          rotate_left
          · rintro W ⟨s0, s1⟩; go_simp; try with_reducible rfl
          try simp only [Act.put, List.setIfInBounds_toArray, List.set_cons_zero, List.set_cons_succ]
          refine wpAnyH_take (i := 6) (oi := ⟨_, _, _, _, _, _⟩) (v := .agg (fillSec by_).cs.toArray) rfl (by kernel_rfl) (by kernel_rfl) (by kernel_rfl) (fun _ _ _ h => h) (Or.inl ⟨by rfl, ?_⟩) (by assumption) ?_
          · rintro W ⟨s0, s1⟩; exact exec_load_row 23 (.tmp 5) rfl G rfl _ s1 Try.underlying23 rfl szS
          try simp only [Act.put, List.setIfInBounds_toArray, List.set_cons_zero, List.set_cons_succ]
          refine wpAnyH_take (i := 7) (oi := ⟨_, _, _, _, _, _⟩) (v := .agg (ChI.cs (at_, fillSec by_)).toArray) rfl (by kernel_rfl) (by kernel_rfl) (by kernel_rfl) (fun _ _ _ h => h) (Or.inl ⟨by rfl, ?_⟩) (by assumption) ?_
          · rintro W ⟨s0, s1⟩; exact exec_built 66 #[(0, .tmp 29), (1, .tmp 30)] rfl _ (builtChL at_ (fillSec by_))
          try simp only [Act.put, List.setIfInBounds_toArray, List.set_cons_zero, List.set_cons_succ]
          refine wpAnyH_ready (rs := [8]) (by kernel_rfl) (by simp) ?_
          refine AllReadyH.cons (o := ⟨_, _, _, _, _, _⟩) rfl (fun K hK => ?_) AllReadyH.nil
          refine ite_yes rfl ?_
          refine wp_buildSlice_one 33 66 (.tmp 31) rfl (ChI.cs (at_, fillSec by_)) rfl Try.underlying33 Try.infoChL (ChI.cs_length _) (by decide) (by decide) ?_
          have hb1 : Below wd.heap.size wd (wd.alloc (.cells (ChI.cs (at_, fillSec by_)).toArray 66)) := (Below.refl _ _).alloc (Nat.le_refl _) _
          have hr1 : RowV (wd.alloc (.cells (ChI.cs (at_, fillSec by_)).toArray 66)) wd.heap.size 66 (ChI.cs (at_, fillSec by_)) := RowV.new wd _ _
          have hs1 : (wd.alloc (.cells (ChI.cs (at_, fillSec by_)).toArray 66)).heap.size = wd.heap.size + 1 := by simp
          generalize wd.alloc (.cells (ChI.cs (at_, fillSec by_)).toArray 66) = v1 at *
          have hzd := HZd.out
          have hB1 : Below N w v1 := HBd.out.trans (hb1.mono (by omega))
          have hrv1 := hrd.below (by omega) hb1
          refine hK.out _ _ ⟨(Hat2.out _ hB1).1, hrv1⟩ (fun hHeld => ?_)
          clear hK K
          try simp only [Act.put, List.setIfInBounds_toArray, List.set_cons_zero, List.set_cons_succ]
          have o1 := own_below HOd.out hb1
          have hz1 : N ≤ v1.heap.size := by omega
          clear HOd HBd HZd hb1 hs1 hrd
          generalize wd.heap.size = G1 at *
          refine wpAnyH_ready (rs := [9]) (by kernel_rfl) (by simp) ?_
          refine AllReadyH.cons (o := ⟨_, _, _, _, _, _⟩) rfl (fun K hK => ?_) AllReadyH.nil
          refine ite_yes rfl ?_
          refine wp_append_at (.tmp 24) (.tmp 32) 33 rfl N 66 Try.underlying33 Try.infoChL chi0_sizeL (by decide) (Value.slice A3 k c3) k _ rfl o1 ⟨G1, 0, none⟩ 1 1 (ChI.cs (at_, fillSec by_)) rfl (by rw [ChI.cs_length]) (fun j u hj => by rw [Addr.add_lit, Nat.zero_add]; exact hr1.cell hj) (ChI.one _) (by unfold maxLen; omega) (by omega) hz1 ?_
          intro v3 v2 o3 hg2 hl2
          obtain ⟨A3', c3', rfl, _, _⟩ := own_slice o3
          rw [← chis_snoc, ← take_succ' Hpc.out] at o3
          have hB2 := hB1.grown hg2 hz1 (fun j e => own_ge o1 _ e)
          refine hK.out _ _ ⟨(Hat2.out _ hB2).1, hrv1.keep hg2 (own_row_apart o1 hrv1 (by decide))⟩ (fun hHeld => ?_)
          clear hK K
          try simp only [Act.put, List.setIfInBounds_toArray, List.set_cons_zero, List.set_cons_succ]
          have KO := Lib.hid o3
          have KB := Lib.hid hB2
          have KZ : Hid (N ≤ v2.heap.size) := by have := hg2.size; show _ ≤ _; omega
          clear o1 hr1 hB1 hz1 hzd o3 hg2 hl2 hB2 hrv1
          refine wpAnyH_take (i := 10) (oi := ⟨_, _, _, _, _, _⟩) (v := ?_) rfl (by kernel_rfl) (by kernel_rfl) (by kernel_rfl) (fun _ _ _ h => h) (Or.inl ⟨by rfl, ?_⟩) (by assumption) ?_
          rotate_left
          · rintro W ⟨s0, s1⟩; go_simp; try with_reducible rfl
          try simp only [Act.put, List.setIfInBounds_toArray, List.set_cons_zero, List.set_cons_succ]
          refine wpAnyH_done (by kernel_rfl) ?_ _
          go_wp2_with fail
          go_roundw
          case rel => exact ⟨k + 1, A3', c3', by omega, by go_num, rfl, KO, KB, KZ⟩
          case measure => simp [intOf]; omega
    · obtain rfl : k = n := by omega
      have ht : (l.map PutI.chi).take k = l.map PutI.chi := List.take_of_length_le (by rw [List.length_map, Hn.out]; exact Nat.le_refl _)
      have ho := HO.out
      rw [ht] at ho
      obtain ⟨_, _, e, hcc, _⟩ := own_slice ho
      injection e with e1 e2 e3
      subst e1 e3
      have Ho := Lib.hid ho
      have Hcc := Lib.hid hcc
      clear ho HO ht hcc
      go_wp2_with fail
      go_ret
      first
        | exact ⟨_, _, rfl, Hcc.out, Ho.out, HB.out⟩
        | (subst hN; exact ⟨_, _, rfl, Hcc.out, Ho.out, HB.out⟩)
end Go.Proofs.Ytgkmbnmelepenaa
