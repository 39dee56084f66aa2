/-
  Layer 14: the contract of the reference's Moved.
-/
import Derived.Test.YtkfhbngphkobfaaPkLefD
import Derived.Test.YtkfhbngphkobfaaPkRegS
import Derived.Deep.RegionHeld3
import Derived.StillTailTactics
namespace Go.Proofs.Ytkfhbngphkobfaa
open Go.RowKit
set_option linter.unusedVariables false
set_option linter.unusedSimpArgs false

/-- What lives while the reference's descriptor is made: the box, the result, the row so far. -/
structure MvAt (w : World) (N : Nat) (t : Tx) (A : Option Addr) (c : Nat) (v : Value) (ls : List Int) (W : World) : Prop where
  box : RowV W N 25 (txc t A c)
  res : RowV W (N + 1) 25 (txc tx0 none 0)
  own : W.ownsRow (N + 3) 3 1 v ls.length (slv ls)
  low : Below N w W
  size : N + 3 ≤ W.heap.size
structure MvMid (w : World) (N : Nat) (t : Tx) (A : Option Addr) (c : Nat) (v : Value) (ls : List Int) (old : Tx) (A' : Option Addr) (c' : Nat) (W : World) : Prop extends MvAt w N t A c v ls W where
  old : RowV W (N + 1 + 1) 25 (txc old A' c')
section
variable {w W W' : World} {N : Nat} {t old : Tx} {A A' : Option Addr} {c c' : Nat} {v v' : Value} {ls : List Int} {s : Int}
theorem MvAt.alloc (h : MvAt w N t A c v ls W) (o : Obj) : MvAt w N t A c v ls (W.alloc o) :=
  ⟨h.box.alloc o, h.res.alloc o, h.own.alloc o, h.low.alloc (by have := h.size; omega) o, by have := h.size; simp; omega⟩
theorem MvAt.drew (h : MvAt w N t A c v ls W) : MvAt w N t A c v ls W.drew := ⟨h.box, h.res, h.own.drew, h.low.drew, h.size⟩
theorem MvAt.app (h : MvAt w N t A c v ls W) (ho : RowV W (N + 1 + 1) 25 (txc old A' c')) (hg : W.grownBy W' v.ownBlock) (own : W'.ownsRow (N + 3) 3 1 v' (ls.length + 1) (slv ls ++ [.int .i64 s])) : MvMid w N t A c v' (ls ++ [s]) old A' c' W' := by
  have hne : ∀ j, j < N + 3 → v.ownBlock ≠ some j := fun j hj e => by have := own_ge h.own j e; omega
  refine ⟨⟨h.box.keep hg (hne _ (by omega)), h.res.keep hg (hne _ (by omega)), ?_, h.low.grown hg (by have := h.size; omega) (fun k e => by have := own_ge h.own k e; omega), Nat.le_trans h.size hg.size⟩, ho.keep hg (hne _ (by omega))⟩
  rw [slv_snoc, List.length_append]
  exact own
theorem MvMid.sto {t2 : Tx} {A2 : Option Addr} {c2 : Nat} (h : MvMid w N t A c v ls old A' c' W) (hr : RowV W' (N + 1 + 1) 25 (txc t2 A2 c2)) (hg : W.grownBy W' (some (N + 1 + 1))) : MvMid w N t A c v ls t2 A2 c2 W' := by
  refine ⟨⟨h.box.keep hg (fun e => by injection e with e; omega), h.res.keep hg (fun e => by injection e with e; omega), h.own.kept hg ?_, below_grown h.low hg (by omega) (by have := h.size; omega), Nat.le_trans h.size hg.size⟩, hr⟩
  refine .inr (fun e => ?_)
  have := own_ge h.own (N + 1 + 1) e
  omega
theorem MvMid.alloc (h : MvMid w N t A c v ls old A' c' W) (o : Obj) : MvMid w N t A c v ls old A' c' (W.alloc o) := ⟨h.toMvAt.alloc o, h.old.alloc o⟩
end

set_option maxRecDepth 100000 in
set_option maxHeartbeats 4000000 in
theorem rmoved14_any (w : World) (B : Nat) (t : Tx) (A : Option Addr) (c : Nat) (x y : Int) (h : LiesV w B A (slv t.slots)) (hB : B ≤ w.heap.size) (hle : t.slots.length ≤ 1000) :
    Calls Try.prog 11 #[.agg (txc t A c).toArray, .int .i64 x, .int .i64 y] w fun e w' => ∃ A' c', e = .returned (.tuple #[.agg (txc (movedL t x y) A' c').toArray, .bool (metL t x)]) ∧ LiesV w' w'.heap.size A' (slv (movedL t x y).slots) ∧ Below w.heap.size w w' := by
  have Hh := Lib.hid h
  clear h
  go_enter Try.func11, Try.ntmps11
  go_wp2_with ((with_reducible refine at_box 25 ?_); refine box_tx rfl _ rfl t A c rfl ?_)
  intro w1 hr1 hb1 hs1
  go_wp2_with ((with_reducible refine at_alloc 25 ?_); refine alloc_tx rfl rfl ?_)
  intro w2 hr2 hb2 hs2
  have hr12 := hr1.below (by omega) hb2
  have hB2 : Below w.heap.size w w2 := hb1.trans (hb2.mono (by omega))
  have hz2 : w2.heap.size = w.heap.size + 2 := by omega
  clear hr1 hb1 hb2 hs1
  go_wp2_with first
    | ((with_reducible refine at_load 25 ?_); refine load_tx rfl _ rfl w.heap.size rfl hr12 ?_)
    | ((with_reducible refine at_alloc 25 ?_); refine alloc_tx rfl rfl ?_)
  intro w3 hr3 hb3 hs3
  have hr13 := hr12.below (by omega) hb3
  have hr23 := hr2.below (by omega) hb3
  have hB3 : Below w.heap.size w w3 := hB2.trans (hb3.mono (by omega))
  have hz3 : w3.heap.size = w.heap.size + 3 := by omega
  clear hr12 hr2 hb3 hB2 hs3
  obtain ⟨N, hN⟩ : ∃ N, w.heap.size = N := ⟨_, rfl⟩
  obtain ⟨m, hm⟩ : ∃ m, t.slots.length = m := ⟨_, rfl⟩
  rw [hm] at hle
  have Hm := Lib.hid hm
  have HN := Lib.hid hN
  clear hm
  rw [hN] at hr3 hr13 hr23 hz3
  rw [hN]
  go_wp2_with ((with_reducible refine at_store 25 ?_); refine store_tx rfl _ _ rfl (N + 1 + 1) t A c rfl rfl hr3 (txc_length _ _ _) ?_)
  intro w4 hr4 hg4 hs4
  have hr14 := hr13.keep hg4 (fun e => by injection e with e; omega)
  have hr24 := hr23.keep hg4 (fun e => by injection e with e; omega)
  have hB4 : Below N w w4 := by rw [hN] at hB3; exact below_grown hB3 hg4 (by omega) (by omega)
  have hz4 : w4.heap.size = N + 3 := by omega
  clear hr3 hr13 hr23 hB3 hg4 hs4 hz3 hs2 hz2
  go_wp2_with ((with_reducible refine at_store 23 ?_); refine store_slots rfl _ _ rfl (N + 1 + 1) none [] 0 rfl rfl hr4 ?_)
  intro w5 hr5 hg5 hs5
  have hT5 : Hid (MvMid w N t A c (.slice none 0 0) [] { t with slots := [] } none 0 w5) := by
    refine ⟨⟨hr14.keep hg5 (fun e => by injection e with e; omega), hr24.keep hg5 (fun e => by injection e with e; omega), World.ownsRow_nil _ _ _ _, below_grown hB4 hg5 (by omega) (by omega), by omega⟩, hr5⟩
  have Hc : Hid (∀ k s, t.slots[k]? = some s → ∃ b o, A = some ⟨b, o, none⟩ ∧ ∀ W, Below N w W → W.cell? ⟨b, o + k, none⟩ = some (.int .i64 s)) := by
    show ∀ k s, _ → _
    intro k s hs
    obtain ⟨b, o, e, hb, hc⟩ := slots_at Hh.out hs
    exact ⟨b, o, e, fun W hW => (hW.cell (p := ⟨b, o + k, none⟩) (by show b < N; omega)).trans hc⟩
  clear hr14 hr24 hB4 hr4 hr5 hg5 hz4 hs5
  go_wp2_with fail
  go_loopw [9, 10] (fun u v W => ∃ k : Nat, k ≤ m ∧ v = .int .i64 k ∧ u = .bool ((t.slots.take k).any fun s => decide (s = x)) ∧ Hid (∃ A' c', MvMid w N t A c (.slice A' k c') ((t.slots.take k).map fun s => if s = x then y else s) { t with slots := (t.slots.take k).map fun s => if s = x then y else s } A' c' W)) (fun _ v _ => m - (intOf v).toNat)
  case atStart => exact ⟨0, Nat.zero_le _, rfl, rfl, ⟨none, 0, hT5.out⟩⟩
  case round =>
    obtain ⟨k, hk, rfl, rfl, HT⟩ := hrel
    clear hT5
    obtain ⟨A1, c1, hT⟩ := HT.out
    have d2 := tx_slots hT.box
    rw [Hm.out] at d2
    by_cases hlt : k < m
    · obtain ⟨s, hs⟩ : ∃ s, t.slots[k]? = some s := ⟨_, List.getElem?_eq_getElem (by rw [Hm.out]; exact hlt)⟩
      obtain ⟨b1, o1, hA1, hcW⟩ := Hc.out k s hs
      subst hA1
      have hc1 := hcW wr hT.low
      have Hcw := Lib.hid hcW
      have hat := metL_take (f := x) hs
      have hmt := movedL_take (f := x) (g := y) hs
      have hll : ((t.slots.take k).map fun s => if s = x then y else s).length = k := by rw [List.length_map, List.length_take, Hm.out]; omega
      obtain ⟨ls, hls⟩ : ∃ ls, ((t.slots.take k).map fun s => if s = x then y else s) = ls := ⟨_, rfl⟩
      rw [hls] at hT hmt hll
      subst hll
      clear hcW HT hs
      have hoc := tx_slots hT.old
      by_cases hsx : s = x
      · have Hat : Hid ((t.slots.take (ls.length + 1)).any (fun s => decide (s = x)) = true) := by show _ = _; rw [hat, decide_eq_true hsx, Bool.or_true]
        rw [if_pos hsx] at hmt
        have Hmt := Lib.hid hmt
        have Hls := Lib.hid hls
        have HT := Lib.hid hT
        clear hat hls hmt hT
        subst hsx
        have hT1 := HT.out.alloc (.cells #[.int .i64 y] 3)
        have hrl : RowV (wr.alloc (.cells #[.int .i64 y] 3)) wr.heap.size 3 [.int .i64 y] := RowV.new wr 3 _
        have hsz1 := hT1.size
        have ho1 := hT1.own
        go_wp2_with (at_builtin; refine wpList_append_one rfl _ _ 23 rfl (N + 3) 3 Try.underlying23 Try.infoI14 rfl (by decide) _ ls.length (slv ls) rfl ho1 wr.heap.size [.int .i64 y] rfl hrl rfl (by intro u hu; simp at hu; subst hu; rfl) (by unfold maxLen; omega) (by omega) hsz1 ?_)
        intro v2 w6 own6 hg6 _
        obtain ⟨A2, c2, rfl, _, _⟩ := own_slice own6
        have hT6 := hT1.toMvAt.app hT1.old hg6 own6
        clear hT1 hrl ho1 hsz1 own6 hg6
        have hold := hT6.old
        have HT6 := Lib.hid hT6
        clear hT6
        go_wp2_with ((with_reducible refine at_store 23 ?_); refine store_slots rfl _ _ rfl (N + 1 + 1) A2 (ls ++ [y]) c2 rfl (by rw [List.length_append]; rfl) hold ?_)
        intro w7 hr7 hg7 hs7
        have HT7 : Hid (∃ A' c', MvMid w N t (some ⟨b1, o1, none⟩) c (.slice A' (ls.length + 1) c') ((t.slots.take (ls.length + 1)).map fun r => if r = s then y else r) { t with slots := (t.slots.take (ls.length + 1)).map fun r => if r = s then y else r } A' c' w7) := by
          show ∃ _, _
          rw [Hmt.out]
          exact ⟨A2, c2, HT6.out.sto hr7 hg7⟩
        clear hold HT6 hr7 hg7 hs7 d2 hc1 hoc
        go_wp2_with fail
        go_roundw
        all_goals first
          | (simp [intOf]; omega)
          | exact ⟨ls.length + 1, by omega, by go_num, by rw [Hat.out], HT7⟩
      · have Hat : Hid ((t.slots.take (ls.length + 1)).any (fun s => decide (s = x)) = (t.slots.take ls.length).any (fun s => decide (s = x))) := by show _ = _; rw [hat, decide_eq_false hsx, Bool.or_false]
        rw [if_neg hsx] at hmt
        have Hmt := Lib.hid hmt
        have Hls := Lib.hid hls
        have HT := Lib.hid hT
        have hTd := hT.toMvAt.drew
        have hod : RowV wr.drew (N + 1 + 1) 25 (txc { t with slots := ls } A1 c1) := hT.old
        clear hat hls hmt hT
        go_wp2_with fail
        obtain ⟨wd, hwd⟩ : ∃ wd, wr.drew = wd := ⟨_, rfl⟩
        refine wp_region_held_drew (S := fun W => RowV W N 25 (txc t (some ⟨b1, o1, none⟩) c) ∧ Below N w W) (by kernel_rfl) ⟨hTd.box, hTd.low⟩ (fun hHeld => ?_)
        rw [hwd] at hTd hod hHeld ⊢
        have ho := hod
        have hcq0 := tx_slots ho
        clear hod hwd d2 hc1
        refine wpAnyH_take (i := 0) (oi := ⟨_, _, _, _, _, _⟩) (v := ?_) rfl (by kernel_rfl) (by kernel_rfl) (by kernel_rfl) (fun _ _ _ h => h) (Or.inl ⟨by rfl, ?_⟩) (by assumption) ?_
        rotate_left
        · intro W hSW; go_simp; try with_reducible rfl
        try simp only [Act.put, List.setIfInBounds_toArray, List.set_cons_zero, List.set_cons_succ]
        refine wpAnyH_take (i := 2) (oi := ⟨_, _, _, _, _, _⟩) (v := ?_) rfl (by kernel_rfl) (by kernel_rfl) (by kernel_rfl) (fun _ _ _ h => h) (Or.inl ⟨by rfl, ?_⟩) (by assumption) ?_
        rotate_left
        · intro W hSW; go_simp; try with_reducible rfl
        try simp only [Act.put, List.setIfInBounds_toArray, List.set_cons_zero, List.set_cons_succ]
        refine wpAnyH_take (i := 3) (oi := ⟨_, _, _, _, _, _⟩) (v := ?_) rfl (by kernel_rfl) (by kernel_rfl) (by kernel_rfl) (fun _ _ _ h => h) (Or.inl ⟨by rfl, ?_⟩) (by assumption) ?_
        rotate_left
        · intro W hSW; have hcq := tx_slots hSW.1; rw [Hm.out] at hcq; go_simp; try with_reducible rfl
        try simp only [Act.put, List.setIfInBounds_toArray, List.set_cons_zero, List.set_cons_succ]
        refine wpAnyH_take (i := 4) (oi := ⟨_, _, _, _, _, _⟩) (v := ?_) rfl (by kernel_rfl) (by kernel_rfl) (by kernel_rfl) (fun _ _ _ h => h) (Or.inl ⟨by rfl, ?_⟩) (by assumption) ?_
        rotate_left
        · intro W hSW; go_simp; try with_reducible rfl
        try simp only [Act.put, List.setIfInBounds_toArray, List.set_cons_zero, List.set_cons_succ]
        refine wpAnyH_take (i := 5) (oi := ⟨_, _, _, _, _, _⟩) (v := ?_) rfl (by kernel_rfl) (by kernel_rfl) (by kernel_rfl) (fun _ _ _ h => h) (Or.inl ⟨by rfl, ?_⟩) (by assumption) ?_
        rotate_left
        · intro W hSW; go_simp; try with_reducible rfl
        try simp only [Act.put, List.setIfInBounds_toArray, List.set_cons_zero, List.set_cons_succ]
        refine wpAnyH_take (i := 6) (oi := ⟨_, _, _, _, _, _⟩) (v := ?_) rfl (by kernel_rfl) (by kernel_rfl) (by kernel_rfl) (fun _ _ _ h => h) (Or.inl ⟨by rfl, ?_⟩) (by assumption) ?_
        rotate_left
        · intro W hSW; have hcq := Hcw.out W hSW.2; go_simp; try with_reducible rfl
        try simp only [Act.put, List.setIfInBounds_toArray, List.set_cons_zero, List.set_cons_succ]
        refine wpAnyH_ready (rs := [1, 7]) (by kernel_rfl) (by simp) ?_
        refine AllReadyH.cons (o := ⟨_, _, _, _, _, _⟩) rfl (fun KK hK => ?_) ?_
        · skip
          have hcq := hcq0
          go_simp
          refine hK.out _ _ ⟨hTd.box, hTd.low⟩ (fun hHeld => ?_)
          try clear hQ2
          clear hK KK
          try simp only [Act.put, List.setIfInBounds_toArray, List.set_cons_zero, List.set_cons_succ]
          refine wpAnyH_ready (rs := [7]) (by kernel_rfl) (by simp) ?_
          refine AllReadyH.cons (o := ⟨_, _, _, _, _, _⟩) rfl (fun KK hK => ?_) AllReadyH.nil
          have hT1 := hTd.alloc (.cells #[.int .i64 s] 3)
          have hrl : RowV (wd.alloc (.cells #[.int .i64 s] 3)) wd.heap.size 3 [.int .i64 s] := RowV.new wd 3 _
          have ho1 := ho.alloc (.cells #[.int .i64 s] 3)
          go_simp
          refine hK.out _ _ ⟨hT1.box, hT1.low⟩ (fun hHeld => ?_)
          try clear hQ2
          clear hK KK
          try simp only [Act.put, List.setIfInBounds_toArray, List.set_cons_zero, List.set_cons_succ]
          refine wpAnyH_ready (rs := [8]) (by kernel_rfl) (by simp) ?_
          refine AllReadyH.cons (o := ⟨_, _, _, _, _, _⟩) rfl (fun KK hK => ?_) AllReadyH.nil
          refine step_of_list rfl (fun Q2 hQ2 => ?_)
          refine wpList_append_one rfl _ _ 23 rfl (N + 3) 3 Try.underlying23 Try.infoI14 rfl (by decide) _ ls.length (slv ls) rfl hT1.own wd.heap.size [.int .i64 s] rfl hrl rfl (by intro u hu; simp at hu; subst hu; rfl) (by unfold maxLen; omega) (by omega) hT1.size ?_
          intro v2 w6 own6 hg6 _
          refine wpList_nil (hQ2 _ _ ?_)
          obtain ⟨A2, c2, rfl, _, _⟩ := own_slice own6
          have hT6 := hT1.app ho1 hg6 own6
          refine hK.out _ _ ⟨hT6.box, hT6.low⟩ (fun hHeld => ?_)
          try clear hQ2
          clear hK KK
          try simp only [Act.put, List.setIfInBounds_toArray, List.set_cons_zero, List.set_cons_succ]
          refine wpAnyH_take (i := 9) (oi := ⟨_, _, _, _, _, _⟩) (v := ?_) rfl (by kernel_rfl) (by kernel_rfl) (by kernel_rfl) (fun _ _ _ h => h) (Or.inl ⟨by rfl, ?_⟩) (by assumption) ?_
          rotate_left
          · intro W hSW; go_simp; try with_reducible rfl
          try simp only [Act.put, List.setIfInBounds_toArray, List.set_cons_zero, List.set_cons_succ]
          refine wpAnyH_ready (rs := [10]) (by kernel_rfl) (by simp) ?_
          refine AllReadyH.cons (o := ⟨_, _, _, _, _, _⟩) rfl (fun KK hK => ?_) AllReadyH.nil
          refine step_of_list rfl (fun Q2 hQ2 => ?_)
          refine store_slots rfl _ _ rfl (N + 1 + 1) A2 (ls ++ [s]) c2 rfl (by rw [List.length_append]; rfl) hT6.old ?_
          intro w7 hr7 hg7 hs7
          refine wpList_nil (hQ2 _ _ ?_)
          have hT7 := hT6.sto hr7 hg7
          refine hK.out _ _ ⟨hT7.box, hT7.low⟩ (fun hHeld => ?_)
          try clear hQ2
          clear hK KK
          try simp only [Act.put, List.setIfInBounds_toArray, List.set_cons_zero, List.set_cons_succ]
          refine wpAnyH_done (by kernel_rfl) ?_ _
          have HT7 : Hid (∃ A' c', MvMid w N t (some ⟨b1, o1, none⟩) c (.slice A' (ls.length + 1) c') ((t.slots.take (ls.length + 1)).map fun r => if r = x then y else r) { t with slots := (t.slots.take (ls.length + 1)).map fun r => if r = x then y else r } A' c' w7) := by
            show ∃ _, _
            rw [Hmt.out]
            exact ⟨A2, c2, hT7⟩
          clear hT7 hT6 hT1 hTd ho1 ho hrl hg6 own6 hr7 hg7 hs7 hHeld HT
          go_wp2_with fail
          go_roundw
          all_goals first
            | (simp [intOf]; omega)
            | exact ⟨ls.length + 1, by omega, by go_num, by rw [Hat.out], HT7⟩
        refine AllReadyH.cons (o := ⟨_, _, _, _, _, _⟩) rfl (fun KK hK => ?_) AllReadyH.nil
        have hT1 := hTd.alloc (.cells #[.int .i64 s] 3)
        have hrl : RowV (wd.alloc (.cells #[.int .i64 s] 3)) wd.heap.size 3 [.int .i64 s] := RowV.new wd 3 _
        have ho1 := ho.alloc (.cells #[.int .i64 s] 3)
        go_simp
        refine hK.out _ _ ⟨hT1.box, hT1.low⟩ (fun hHeld => ?_)
        try clear hQ2
        clear hK KK
        try simp only [Act.put, List.setIfInBounds_toArray, List.set_cons_zero, List.set_cons_succ]
        refine wpAnyH_ready (rs := [1]) (by kernel_rfl) (by simp) ?_
        refine AllReadyH.cons (o := ⟨_, _, _, _, _, _⟩) rfl (fun KK hK => ?_) AllReadyH.nil
        have hcq := tx_slots ho1
        go_simp
        refine hK.out _ _ ⟨hT1.box, hT1.low⟩ (fun hHeld => ?_)
        try clear hQ2
        clear hK KK
        try simp only [Act.put, List.setIfInBounds_toArray, List.set_cons_zero, List.set_cons_succ]
        refine wpAnyH_ready (rs := [8]) (by kernel_rfl) (by simp) ?_
        refine AllReadyH.cons (o := ⟨_, _, _, _, _, _⟩) rfl (fun KK hK => ?_) AllReadyH.nil
        refine step_of_list rfl (fun Q2 hQ2 => ?_)
        refine wpList_append_one rfl _ _ 23 rfl (N + 3) 3 Try.underlying23 Try.infoI14 rfl (by decide) _ ls.length (slv ls) rfl hT1.own wd.heap.size [.int .i64 s] rfl hrl rfl (by intro u hu; simp at hu; subst hu; rfl) (by unfold maxLen; omega) (by omega) hT1.size ?_
        intro v2 w6 own6 hg6 _
        refine wpList_nil (hQ2 _ _ ?_)
        obtain ⟨A2, c2, rfl, _, _⟩ := own_slice own6
        have hT6 := hT1.app ho1 hg6 own6
        refine hK.out _ _ ⟨hT6.box, hT6.low⟩ (fun hHeld => ?_)
        try clear hQ2
        clear hK KK
        try simp only [Act.put, List.setIfInBounds_toArray, List.set_cons_zero, List.set_cons_succ]
        refine wpAnyH_take (i := 9) (oi := ⟨_, _, _, _, _, _⟩) (v := ?_) rfl (by kernel_rfl) (by kernel_rfl) (by kernel_rfl) (fun _ _ _ h => h) (Or.inl ⟨by rfl, ?_⟩) (by assumption) ?_
        rotate_left
        · intro W hSW; go_simp; try with_reducible rfl
        try simp only [Act.put, List.setIfInBounds_toArray, List.set_cons_zero, List.set_cons_succ]
        refine wpAnyH_ready (rs := [10]) (by kernel_rfl) (by simp) ?_
        refine AllReadyH.cons (o := ⟨_, _, _, _, _, _⟩) rfl (fun KK hK => ?_) AllReadyH.nil
        refine step_of_list rfl (fun Q2 hQ2 => ?_)
        refine store_slots rfl _ _ rfl (N + 1 + 1) A2 (ls ++ [s]) c2 rfl (by rw [List.length_append]; rfl) hT6.old ?_
        intro w7 hr7 hg7 hs7
        refine wpList_nil (hQ2 _ _ ?_)
        have hT7 := hT6.sto hr7 hg7
        refine hK.out _ _ ⟨hT7.box, hT7.low⟩ (fun hHeld => ?_)
        try clear hQ2
        clear hK KK
        try simp only [Act.put, List.setIfInBounds_toArray, List.set_cons_zero, List.set_cons_succ]
        refine wpAnyH_done (by kernel_rfl) ?_ _
        have HT7 : Hid (∃ A' c', MvMid w N t (some ⟨b1, o1, none⟩) c (.slice A' (ls.length + 1) c') ((t.slots.take (ls.length + 1)).map fun r => if r = x then y else r) { t with slots := (t.slots.take (ls.length + 1)).map fun r => if r = x then y else r } A' c' w7) := by
          show ∃ _, _
          rw [Hmt.out]
          exact ⟨A2, c2, hT7⟩
        clear hT7 hT6 hT1 hTd ho1 ho hrl hg6 own6 hr7 hg7 hs7 hHeld HT
        go_wp2_with fail
        go_roundw
        all_goals first
          | (simp [intOf]; omega)
          | exact ⟨ls.length + 1, by omega, by go_num, by rw [Hat.out], HT7⟩
    · obtain rfl : k = m := by omega
      have hall : (t.slots.take k).map (fun s => if s = x then y else s) = (movedL t x y).slots := by rw [List.take_of_length_le (by rw [Hm.out]; exact Nat.le_refl _)]; rfl
      have Hmet : Hid ((t.slots.take k).any (fun s => decide (s = x)) = metL t x) := by show _ = _; rw [List.take_of_length_le (by rw [Hm.out]; exact Nat.le_refl _)]; rfl
      rw [hall] at hT
      have hold : RowV wr (N + 1 + 1) 25 (txc (movedL t x y) A1 c1) := hT.old
      have hres := hT.res
      have HT2 := Lib.hid hT
      clear hT HT hall
      go_wp2_with first
        | ((with_reducible refine at_load 25 ?_); refine load_tx rfl _ rfl (N + 1 + 1) rfl hold ?_)
        | ((with_reducible refine at_store 25 ?_); refine store_tx rfl _ _ rfl (N + 1) (movedL t x y) A1 c1 rfl rfl hres (txc_length _ _ _) ?_)
      intro w6 hr6 hg6 hs6
      obtain ⟨A2, c2, hv2, _, _, _, hl2⟩ := LiesV.of_own HT2.out.own
      injection hv2 with e1 e2 e3
      subst e1 e3
      have hl6 : LiesV w6 w6.heap.size A1 (slv (movedL t x y).slots) := by
        have h9 := own_ge HT2.out.own
        intro hx
        obtain ⟨b, o, hA, hb, hc⟩ := hl2 hx
        have hbN : N + 3 ≤ b := h9 b (by rw [hA]; rfl)
        exact ⟨b, o, hA, by rw [hs6]; exact hb, fun i v hi => (World.cell?_of_block (hg6.block b hb (fun e => by injection e with e; omega))).trans (hc i v hi)⟩
      have HB6 : Hid (Below w.heap.size w w6) := by rw [hN]; exact below_grown HT2.out.low hg6 (by omega) (by have := HT2.out.size; omega)
      go_wp2_with fail
      exact bodyPost_ret (results_cell_tmp (fn := Try.f11) rfl _ _ (N + 1) 25 _ (0, 0) _ rfl _ rfl hr6 Try.underlying25 rfl (txc_info' _ _ _)) rfl ⟨A1, c1, by rw [← Hmet.out]; rfl, hl6, HB6.out⟩
end Go.Proofs.Ytkfhbngphkobfaa
