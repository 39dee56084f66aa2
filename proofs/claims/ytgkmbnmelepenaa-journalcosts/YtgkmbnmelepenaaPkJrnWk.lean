/-
  Layer 9: the contract of pending.
  Layer 9: the contracts of Recover, Cost, New.
  Layer 9: the contracts of blank and Clean.
  Layer 9: the contracts of the laws' small and begin.
  Layer 9: a journal that lives beside blocks that stay as they are: one contract a call.
  Layer 9: what the laws' works does, on disks as they are told.
-/
import Derived.Test.YtgkmbnmelepenaaPkJrnV
import Derived.Deep.Cut
import Derived.Test.YtgkmbnmelepenaaPkPlanM
import Derived.Test.YtgkmbnmelepenaaPkFillN
import Derived.Deep.RegionHeld3
import Derived.Test.YtgkmbnmelepenaaPkDiskIm
namespace Go.Proofs.Ytgkmbnmelepenaa
open Go.RowKit
set_option linter.unusedVariables false
set_option linter.unusedSimpArgs false

theorem targets_len {x : Sec} {ts : List Int} (h : targetsS x = some ts) : ts.length ≤ 123 := by
  unfold targetsS at h
  split at h
  · rename_i hc
    injection h with h
    rw [← h, numsAt_length]
    exact hc.2.1
  · cases h
theorem read_up {d : Dk} {x : Nat} (hu : d.down = false) (hx : x < d.dur.length) : d.read (x : Int) = (Dk.look d.dur d.wait x, 0) := by
  have hh : d.has (x : Int) = true := by simp [Dk.has, hx]
  simp [Dk.read, hh, hu]
/-- The first k filled in. -/
def partP (P : List ChI) (ts : List Int) (k : Nat) : List ChI := P.take k ++ (blanks ts).drop k
theorem set_selfQ {l : List ChI} {k : Nat} {c : ChI} (h : l[k]? = some c) : l.set k (c.1, c.2) = l := by
  apply List.ext_getElem?
  intro i
  rw [List.getElem?_set]
  split
  · rename_i e
    subst e
    rw [h]
    simp [(List.getElem?_eq_some_iff.1 h).1]
  · rfl
theorem chi_put_sec {l : List ChI} {k : Nat} {c : ChI} (h : l[k]? = some c) (s : Sec) : putL (chis l) (k * 257 + 1) s.cs = chis (l.set k (c.1, s)) := by
  have hk := (List.getElem?_eq_some_iff.1 h).1
  have e1 := chis_put hk (c.1, s)
  have e2 : (chis l).set (k * 257) (.int .i64 c.1) = chis l := by
    have := set_flat_head h c.1
    rw [this]
    congr 1
    exact set_selfQ h
  rw [← e1]
  show _ = putL ((chis l).set (k * 257) (.int .i64 c.1)) (k * 257 + 1) s.cs
  rw [e2]
theorem pendFrom_get (d : Dk) : ∀ (ts : List Int) (b k : Nat) (x : Int), ts[k]? = some x → (pendFrom d b ts)[k]? = some (x, Dk.look d.dur d.wait (b + k))
  | [], b, k, x, h => by simp at h
  | a :: r, b, 0, x, h => by simp at h; subst h; rfl
  | a :: r, b, k + 1, x, h => by
    rw [pendFrom, List.getElem?_cons_succ, pendFrom_get d r (b + 1) k x (by simpa using h), show b + 1 + k = b + (k + 1) by omega]
theorem partP_length {d : Dk} {b : Nat} {ts : List Int} {k : Nat} (hk : k ≤ ts.length) : (partP (pendFrom d b ts) ts k).length = ts.length := by
  unfold partP
  rw [List.length_append, List.length_take, List.length_drop, pendFrom_length, blanks_length]
  omega
theorem partP_at {d : Dk} {b : Nat} {ts : List Int} {k : Nat} {x : Int} (h : ts[k]? = some x) : (partP (pendFrom d b ts) ts k)[k]? = some (x, zeroSec) := by
  have hk := (List.getElem?_eq_some_iff.1 h).1
  unfold partP
  rw [List.getElem?_append_right (by rw [List.length_take]; omega), List.length_take, pendFrom_length, Nat.min_eq_left (by omega), Nat.sub_self, List.getElem?_drop]
  simp [blanks, h]
theorem partP_set {d : Dk} {b : Nat} {ts : List Int} {k : Nat} {x : Int} (h : ts[k]? = some x) : (partP (pendFrom d b ts) ts k).set k (x, Dk.look d.dur d.wait (b + k)) = partP (pendFrom d b ts) ts (k + 1) := by
  have hk := (List.getElem?_eq_some_iff.1 h).1
  have hl : ((pendFrom d b ts).take k).length = k := by rw [List.length_take, pendFrom_length]; omega
  unfold partP
  have hkb : k < (blanks ts).length := by rw [blanks_length]; exact hk
  rw [List.set_append_right _ _ (by omega), hl, Nat.sub_self, List.drop_eq_getElem_cons hkb, List.set_cons_zero, take_succ' (pendFrom_get d ts b k x h)]
  simp

set_option maxRecDepth 100000 in
set_option maxHeartbeats 2000000 in
theorem jpending_any (w : World) (base : Nat) (L : List Nat) (g gj : Nat) (q : Lq) (y : Jl) (d : Dk) (N0 : Nat) (hJ : Jr w base L g gj q y d) (hy : y.Ok) (hd : d.down = false) (hf : Fit y.total d N0) :
    Calls Try.prog 57 #[.pointer (some ⟨gj, 0, none⟩)] w fun e w' => ∃ A n c, e = .returned (.tuple #[.slice A n c, .int .i64 0]) ∧ n = (pendL y d).length ∧ n ≤ c ∧ LiesV w' w'.heap.size A (chis (pendL y d)) ∧ (∀ a, A = some a → w.heap.size ≤ a.block) ∧ Below w.heap.size w w' := by
  have HR : Hid (∀ W, Below w.heap.size w W → ∀ x : Nat, x < y.total → Calls Try.prog 28 #[.pointer (some ⟨g, 0, none⟩), .int .i64 (x : Int)] W fun e W' => e = .returned (.tuple #[.agg (Dk.look d.dur d.wait x).cs.toArray, .int .i64 0]) ∧ Below W.heap.size W W') := by
    intro W hb x hx
    obtain ⟨vd, vw, bm, h, _⟩ := hJ.disk.below hb
    refine (dread_any W base g bm vd vw d (x : Int) hf.ok h).mono ?_
    rintro e W' ⟨rfl, hb'⟩
    rw [read_up hd (by rw [hf.len]; exact hx)]
    exact ⟨rfl, hb'⟩
  have HK : Hid (∀ W, Below w.heap.size w W → RowV W gj 84 (jcs g q y)) := fun W hb => hJ.row.below hJ.row.lt hb
  have Hy := Lib.hid hy
  have hhead : y.head < y.total := by have := hy.body; have := hy.total; omega
  have j0 := hJ.row.cell (i := 0) rfl
  have j9 := hJ.row.cell (i := 9) rfl
  have hjl := hJ.row.lt
  clear hJ hf hy
  obtain ⟨x, hx⟩ : ∃ x, Dk.look d.dur d.wait y.head = x := ⟨_, rfl⟩
  have Hx := Lib.hid hx
  have Hpend : Hid (pendL y d = match targetsS x with | none => [] | some ts => if checkL y ts = 0 then pendFrom d y.body ts else []) := by
    show _ = _
    rw [← hx]
    rfl
  clear hx
  go_enter Try.func57, Try.ntmps57
  go_wp2_with fail
  generalize hN : w.heap.size = N at *
  generalize hhd : (y.head : Int) = hd' at *
  go_cut [4, 5] from 10 (fun s4 s5 W => ∃ G : Nat, s4 = .pointer (some ⟨G, 0, none⟩) ∧ s5 = .int .i64 0 ∧ N ≤ G ∧ Hid (RowV W G 23 x.cs) ∧ Hid (Below N w W))
  case first =>
    refine wp_region_held_drew (S := fun W => W.cell? ⟨gj, 0, none⟩ = some (.pointer (some ⟨g, 0, none⟩)) ∧ W.cell? ⟨gj, 9, none⟩ = some (.int .i64 hd') ∧ Below N w W) (by kernel_rfl) ⟨j0, j9, (hN ▸ Below.refl _ _ : Below N w w).drew⟩ (fun hHeld => ?_)
    have hS : ∀ W, Below N w W → W.cell? ⟨gj, 0, none⟩ = some (.pointer (some ⟨g, 0, none⟩)) ∧ W.cell? ⟨gj, 9, none⟩ = some (.int .i64 hd') ∧ Below N w W := fun W hb => ⟨(HK.out W hb).cell (i := 0) rfl, hhd ▸ (HK.out W hb).cell (i := 9) rfl, hb⟩
    have hb0 : Below N w w.drew := (hN ▸ Below.refl _ _ : Below N w w).drew
    have hz0 : N ≤ w.drew.heap.size := by show N ≤ w.heap.size; omega
    clear j0 j9
    generalize w.drew = wd at *
    refine wpAnyH_take (i := 0) (oi := ⟨_, _, _, _, _, _⟩) (v := ?_) rfl (by kernel_rfl) (by kernel_rfl) (by kernel_rfl) (fun _ _ _ h => h) (Or.inl ⟨by rfl, ?_⟩) (by assumption) ?_
    rotate_left
    · rintro W ⟨s0, s1, s2⟩; go_simp; try with_reducible rfl
    try simp only [Act.put, List.setIfInBounds_toArray, List.set_cons_zero, List.set_cons_succ]
    refine wpAnyH_take (i := 1) (oi := ⟨_, _, _, _, _, _⟩) (v := ?_) rfl (by kernel_rfl) (by kernel_rfl) (by kernel_rfl) (fun _ _ _ h => h) (Or.inl ⟨by rfl, ?_⟩) (by assumption) ?_
    rotate_left
    · rintro W ⟨s0, s1, s2⟩; go_simp; try with_reducible rfl
    try simp only [Act.put, List.setIfInBounds_toArray, List.set_cons_zero, List.set_cons_succ]
    refine wpAnyH_take (i := 2) (oi := ⟨_, _, _, _, _, _⟩) (v := ?_) rfl (by kernel_rfl) (by kernel_rfl) (by kernel_rfl) (fun _ _ _ h => h) (Or.inl ⟨by rfl, ?_⟩) (by assumption) ?_
    rotate_left
    · rintro W ⟨s0, s1, s2⟩; go_simp; try with_reducible rfl
    try simp only [Act.put, List.setIfInBounds_toArray, List.set_cons_zero, List.set_cons_succ]
    refine wpAnyH_take (i := 3) (oi := ⟨_, _, _, _, _, _⟩) (v := ?_) rfl (by kernel_rfl) (by kernel_rfl) (by kernel_rfl) (fun _ _ _ h => h) (Or.inl ⟨by rfl, ?_⟩) (by assumption) ?_
    rotate_left
    · rintro W ⟨s0, s1, s2⟩; go_simp; try with_reducible rfl
    try simp only [Act.put, List.setIfInBounds_toArray, List.set_cons_zero, List.set_cons_succ]
    refine wpAnyH_take (i := 4) (oi := ⟨_, _, _, _, _, _⟩) (v := ?_) rfl (by kernel_rfl) (by kernel_rfl) (by kernel_rfl) (fun _ _ _ h => h) (Or.inl ⟨by rfl, ?_⟩) (by assumption) ?_
    rotate_left
    · rintro W ⟨s0, s1, s2⟩; go_simp; try with_reducible rfl
    try simp only [Act.put, List.setIfInBounds_toArray, List.set_cons_zero, List.set_cons_succ]
    refine wpAnyH_take (i := 5) (oi := ⟨_, _, _, _, _, _⟩) (v := ?_) rfl (by kernel_rfl) (by kernel_rfl) (by kernel_rfl) (fun _ _ _ h => h) (Or.inl ⟨by rfl, ?_⟩) (by assumption) ?_
    rotate_left
    · rintro W ⟨s0, s1, s2⟩; go_simp; try with_reducible rfl
    try simp only [Act.put, List.setIfInBounds_toArray, List.set_cons_zero, List.set_cons_succ]
    refine wpAnyH_take (i := 6) (oi := ⟨_, _, _, _, _, _⟩) (v := ?_) rfl (by kernel_rfl) (by kernel_rfl) (by kernel_rfl) (fun _ _ _ h => h) (Or.inl ⟨by rfl, ?_⟩) (by assumption) ?_
    rotate_left
    · rintro W ⟨s0, s1, s2⟩; go_simp; try with_reducible rfl
    try simp only [Act.put, List.setIfInBounds_toArray, List.set_cons_zero, List.set_cons_succ]
    refine wpAnyH_take (i := 7) (oi := ⟨_, _, _, _, _, _⟩) (v := ?_) rfl (by kernel_rfl) (by kernel_rfl) (by kernel_rfl) (fun _ _ _ h => h) (Or.inl ⟨by rfl, ?_⟩) (by assumption) ?_
    rotate_left
    · rintro W ⟨s0, s1, s2⟩; go_simp; try with_reducible rfl
    try simp only [Act.put, List.setIfInBounds_toArray, List.set_cons_zero, List.set_cons_succ]
    refine wpAnyH_take (i := 8) (oi := ⟨_, _, _, _, _, _⟩) (v := ?_) rfl (by kernel_rfl) (by kernel_rfl) (by kernel_rfl) (fun _ _ _ h => h) (Or.inl ⟨by rfl, ?_⟩) (by assumption) ?_
    rotate_left
    · rintro W ⟨s0, s1, s2⟩; go_simp; try with_reducible rfl
    try simp only [Act.put, List.setIfInBounds_toArray, List.set_cons_zero, List.set_cons_succ]
    refine wpAnyH_ready (rs := [9, 13]) (by kernel_rfl) (by simp) ?_
    refine AllReadyH.cons (o := ⟨_, _, _, _, _, _⟩) rfl (fun K hK => ?_) (AllReadyH.cons (o := ⟨_, _, _, _, _, _⟩) rfl (fun K hK => ?_) AllReadyH.nil)
    · go_simp
      rw [← hhd]
      refine (HR.out wd hb0 y.head hhead).mono ?_
      rintro e v1 ⟨rfl, hbb⟩
      rw [Hx.out]
      rw [hhd]
      try simp only []
      have hb1 : Below N w v1 := hb0.trans (hbb.mono hz0)
      have hz1 : N ≤ v1.heap.size := by have := hbb.size; omega
      refine hK.out _ _ (hS _ hb1) (fun hHeld => ?_)
      clear hK K hbb
      try simp only [Act.put, List.setIfInBounds_toArray, List.set_cons_zero, List.set_cons_succ]
      refine wpAnyH_take (i := 10) (oi := ⟨_, _, _, _, _, _⟩) (v := ?_) rfl (by kernel_rfl) (by kernel_rfl) (by kernel_rfl) (fun _ _ _ h => h) (Or.inl ⟨by rfl, ?_⟩) (by assumption) ?_
      rotate_left
      · rintro W ⟨s0, s1, s2⟩; go_simp; try with_reducible rfl
      try simp only [Act.put, List.setIfInBounds_toArray, List.set_cons_zero, List.set_cons_succ]
      refine wpAnyH_take (i := 11) (oi := ⟨_, _, _, _, _, _⟩) (v := ?_) rfl (by kernel_rfl) (by kernel_rfl) (by kernel_rfl) (fun _ _ _ h => h) (Or.inl ⟨by rfl, ?_⟩) (by assumption) ?_
      rotate_left
      · rintro W ⟨s0, s1, s2⟩; go_simp; try with_reducible rfl
      try simp only [Act.put, List.setIfInBounds_toArray, List.set_cons_zero, List.set_cons_succ]
      refine wpAnyH_take (i := 12) (oi := ⟨_, _, _, _, _, _⟩) (v := ?_) rfl (by kernel_rfl) (by kernel_rfl) (by kernel_rfl) (fun _ _ _ h => h) (Or.inl ⟨by rfl, ?_⟩) (by assumption) ?_
      rotate_left
      · rintro W ⟨s0, s1, s2⟩; go_simp; try with_reducible rfl
      try simp only [Act.put, List.setIfInBounds_toArray, List.set_cons_zero, List.set_cons_succ]
      refine wpAnyH_ready (rs := [13]) (by kernel_rfl) (by simp) ?_
      refine AllReadyH.cons (o := ⟨_, _, _, _, _, _⟩) rfl (fun K hK => ?_) AllReadyH.nil
      refine ite_yes rfl ?_
      refine wp_alloc_sec rfl ?_
      intro v2 hr2 hbb hs2
      have hb2 : Below N w v2 := hb1.trans (hbb.mono hz1)
      refine hK.out _ _ (hS _ hb2) (fun hHeld => ?_)
      clear hK K hbb
      try simp only [Act.put, List.setIfInBounds_toArray, List.set_cons_zero, List.set_cons_succ]
      refine wpAnyH_ready (rs := [14]) (by kernel_rfl) (by simp) ?_
      refine AllReadyH.cons (o := ⟨_, _, _, _, _, _⟩) rfl (fun K hK => ?_) AllReadyH.nil
      refine ite_yes rfl ?_
      refine wp_store_sec (.tmp 4) (.tmp 21) rfl v1.heap.size x rfl rfl hr2 (Sec.cs_length _) ?_
      intro v3 hr3 hg3 hs3
      have hb3 : Below N w v3 := below_grown hb2 hg3 hz1 (by omega)
      refine hK.out _ _ (hS _ hb3) (fun hHeld => ?_)
      clear hK K
      try simp only [Act.put, List.setIfInBounds_toArray, List.set_cons_zero, List.set_cons_succ]
      refine wpAnyH_take (i := 15) (oi := ⟨_, _, _, _, _, _⟩) (v := ?_) rfl (by kernel_rfl) (by kernel_rfl) (by kernel_rfl) (fun _ _ _ h => h) (Or.inl ⟨by rfl, ?_⟩) (by assumption) ?_
      rotate_left
      · rintro W ⟨s0, s1, s2⟩; go_simp; try with_reducible rfl
      try simp only [Act.put, List.setIfInBounds_toArray, List.set_cons_zero, List.set_cons_succ]
      refine wpAnyH_done (by kernel_rfl) ?_ _
      go_wp2_with fail
      go_meet
      case rel => exact ⟨v1.heap.size, rfl, rfl, hz1, hr3, hb3⟩
    · refine ite_yes rfl ?_
      refine wp_alloc_sec rfl ?_
      intro v1 hr1 hbb hs1
      have hb1 : Below N w v1 := hb0.trans (hbb.mono hz0)
      have hz1 : N ≤ v1.heap.size := by omega
      refine hK.out _ _ (hS _ hb1) (fun hHeld => ?_)
      clear hK K hbb
      try simp only [Act.put, List.setIfInBounds_toArray, List.set_cons_zero, List.set_cons_succ]
      refine wpAnyH_ready (rs := [9]) (by kernel_rfl) (by simp) ?_
      refine AllReadyH.cons (o := ⟨_, _, _, _, _, _⟩) rfl (fun K hK => ?_) AllReadyH.nil
      go_simp
      rw [← hhd]
      refine (HR.out v1 hb1 y.head hhead).mono ?_
      rintro e v2 ⟨rfl, hbb⟩
      rw [Hx.out]
      rw [hhd]
      try simp only []
      have hb2 : Below N w v2 := hb1.trans (hbb.mono hz1)
      have hr2 := hr1.below hr1.lt hbb
      refine hK.out _ _ (hS _ hb2) (fun hHeld => ?_)
      have hz2 : N ≤ v2.heap.size := by have := hbb.size; omega
      clear hK K hbb
      try simp only [Act.put, List.setIfInBounds_toArray, List.set_cons_zero, List.set_cons_succ]
      refine wpAnyH_take (i := 10) (oi := ⟨_, _, _, _, _, _⟩) (v := ?_) rfl (by kernel_rfl) (by kernel_rfl) (by kernel_rfl) (fun _ _ _ h => h) (Or.inl ⟨by rfl, ?_⟩) (by assumption) ?_
      rotate_left
      · rintro W ⟨s0, s1, s2⟩; go_simp; try with_reducible rfl
      try simp only [Act.put, List.setIfInBounds_toArray, List.set_cons_zero, List.set_cons_succ]
      refine wpAnyH_take (i := 11) (oi := ⟨_, _, _, _, _, _⟩) (v := ?_) rfl (by kernel_rfl) (by kernel_rfl) (by kernel_rfl) (fun _ _ _ h => h) (Or.inl ⟨by rfl, ?_⟩) (by assumption) ?_
      rotate_left
      · rintro W ⟨s0, s1, s2⟩; go_simp; try with_reducible rfl
      try simp only [Act.put, List.setIfInBounds_toArray, List.set_cons_zero, List.set_cons_succ]
      refine wpAnyH_take (i := 12) (oi := ⟨_, _, _, _, _, _⟩) (v := ?_) rfl (by kernel_rfl) (by kernel_rfl) (by kernel_rfl) (fun _ _ _ h => h) (Or.inl ⟨by rfl, ?_⟩) (by assumption) ?_
      rotate_left
      · rintro W ⟨s0, s1, s2⟩; go_simp; try with_reducible rfl
      try simp only [Act.put, List.setIfInBounds_toArray, List.set_cons_zero, List.set_cons_succ]
      refine wpAnyH_ready (rs := [14]) (by kernel_rfl) (by simp) ?_
      refine AllReadyH.cons (o := ⟨_, _, _, _, _, _⟩) rfl (fun K hK => ?_) AllReadyH.nil
      refine ite_yes rfl ?_
      refine wp_store_sec (.tmp 4) (.tmp 21) rfl wd.heap.size x rfl rfl hr2 (Sec.cs_length _) ?_
      intro v3 hr3 hg3 hs3
      have hb3 : Below N w v3 := below_grown hb2 hg3 hz0 hz2
      refine hK.out _ _ (hS _ hb3) (fun hHeld => ?_)
      clear hK K
      try simp only [Act.put, List.setIfInBounds_toArray, List.set_cons_zero, List.set_cons_succ]
      refine wpAnyH_take (i := 15) (oi := ⟨_, _, _, _, _, _⟩) (v := ?_) rfl (by kernel_rfl) (by kernel_rfl) (by kernel_rfl) (fun _ _ _ h => h) (Or.inl ⟨by rfl, ?_⟩) (by assumption) ?_
      rotate_left
      · rintro W ⟨s0, s1, s2⟩; go_simp; try with_reducible rfl
      try simp only [Act.put, List.setIfInBounds_toArray, List.set_cons_zero, List.set_cons_succ]
      refine wpAnyH_done (by kernel_rfl) ?_ _
      go_wp2_with fail
      go_meet
      case rel => exact ⟨wd.heap.size, rfl, rfl, hz0, hr3, hb3⟩
  case rest =>
    obtain ⟨G, rfl, rfl, hG, HRG, HB⟩ := hcut
    have hrg := HRG.out
    clear j0 j9
    go_wp2_with ((with_reducible refine at_load 23 ?_); refine load_sec rfl _ rfl G rfl hrg ?_)
    clear hrg
    refine (jtargets_any _ x).mono ?_
    rintro e w4 ⟨v, rfl, hv, hb4⟩
    have HB4 := Lib.hid (HB.out.trans (hb4.mono (by rw [← hN]; exact HB.out.size)))
    clear hb4 HB HRG
    obtain ⟨o, ho⟩ : ∃ o, targetsS x = o := ⟨_, rfl⟩
    have hp := Hpend.out
    rw [ho] at hv hp ⊢
    clear Hpend
    have hz4 : N ≤ w4.heap.size := by rw [← hN]; exact HB4.out.size
    rcases o with _ | ts
    · have hv' : v = .slice none 0 0 := hv
      have Hp : Hid (pendL y d = []) := hp
      subst hv'
      clear hv hp
      simp only [Option.isSome_none]
      go_wp2_with fail
      refine (jblanks_any w4 w4.heap.size none 0 0 [] (LiesV.nil _ _ _) rfl (Nat.le_refl _) (by omega)).mono ?_
      rintro e w5 ⟨rfl, hr5, hb5⟩
      have HB5 := Lib.hid (HB4.out.trans (hb5.mono hz4))
      clear hr5 hb5
      go_wp2_with fail
      go_ret2
      rw [Hp.out]
      exact ⟨none, 0, 0, rfl, rfl, Nat.le_refl _, LiesV.nil _ _ _, by simp, by first | exact HB5.out | (rw [hN]; exact HB5.out)⟩
    · obtain ⟨A, c, rfl, hl⟩ := hv
      have Hp : Hid (pendL y d = if checkL y ts = 0 then pendFrom d y.body ts else []) := hp
      have HL := Lib.hid hl
      have hlen := targets_len ho
      clear hp hl ho
      simp only [Option.isSome_some]
      obtain ⟨n, hn⟩ : ∃ n, ts.length = n := ⟨_, rfl⟩
      have Hn := Lib.hid hn
      rw [hn] at hlen ⊢
      clear hn
      go_wp2_with fail
      refine (jblanks_any w4 w4.heap.size A n c ts HL.out Hn.out.symm (Nat.le_refl _) (by omega)).mono ?_
      rintro e w5 ⟨rfl, hr5, hb5⟩
      have HB5 := Lib.hid (HB4.out.trans (hb5.mono hz4))
      have HR5 := Lib.hid hr5
      have hz5 : N ≤ w5.heap.size := by rw [← hN]; exact HB5.out.size
      clear hr5 hb5 HB4 HL
      generalize hG4 : w4.heap.size = G4 at *
      clear hG4
      go_wp2_with fail
      refine (jcheck_any w5 g gj q y _ _ n n (blanks ts) (HK.out _ HB5.out) Hy.out (LiesV.of_row HR5.out) (by rw [blanks_length]; exact Hn.out.symm) (Nat.le_refl _) (by omega) (Nat.le_refl _)).mono ?_
      rintro e w6 ⟨rfl, hb6⟩
      rw [blanks_map]
      have HB6 := Lib.hid (HB5.out.trans (hb6.mono hz5))
      have HR6 := Lib.hid (HR5.out.below HR5.out.lt hb6)
      clear hb6 HB5 HR5 hz5
      by_cases hck : checkL y ts = 0
      case neg =>
        have Hp2 : Hid (pendL y d = []) := by show _ = _; rw [Hp.out, if_neg hck]
        obtain ⟨r, hr⟩ : ∃ r, checkL y ts = r := ⟨_, rfl⟩
        rw [hr] at hck ⊢
        clear hr
        go_wp2_with fail
        go_ret2
        rw [Hp2.out]
        exact ⟨none, 0, 0, rfl, rfl, Nat.le_refl _, LiesV.nil _ _ _, by simp, by first | exact HB6.out | (rw [hN]; exact HB6.out)⟩
      have Hp2 : Hid (pendL y d = pendFrom d y.body ts) := by show _ = _; rw [Hp.out, if_pos hck]
      have hroom := (check_zero hck).2.1
      rw [Hn.out] at hroom
      rw [hck]
      clear hck Hp
      have HR7 : Hid (RowV w6 G4 66 (chis (partP (pendFrom d y.body ts) ts 0))) := by
        show RowV _ _ _ _
        simp only [partP, List.take_zero, List.drop_zero, List.nil_append]
        exact HR6.out
      have htot := Hy.out.total
      have hsm := Hy.out.small
      clear HR6
      go_wp2_with fail
      go_loopw [5, 43] (fun s5 v W => ∃ k : Nat, k ≤ n ∧ v = .int .i64 k ∧ s5 = .int .i64 0 ∧ Hid (RowV W G4 66 (chis (partP (pendFrom d y.body ts) ts k))) ∧ Hid (Below N w W)) (fun _ v _ => n - (intOf v).toNat)
      case atStart => exact ⟨0, Nat.zero_le _, rfl, rfl, HR7, HB6⟩
      case round =>
        obtain ⟨k, hk, rfl, rfl, HRk, HBk⟩ := hrel
        clear HR7 HB6
        by_cases hlt : k < n
        · have hlt' : (k : Int) < (n : Int) := by omega
          have hk0 : (0 : Int) ≤ (k : Int) := by omega
          obtain ⟨t, ht⟩ : ∃ t, ts[k]? = some t := ⟨_, List.getElem?_eq_getElem (by rw [Hn.out]; exact hlt)⟩
          have Hat := Lib.hid (partP_at (d := d) (b := y.body) ht)
          have Hst := Lib.hid (partP_set (d := d) (b := y.body) ht)
          obtain ⟨sx, hsx⟩ : ∃ sx, Dk.look d.dur d.wait (y.body + k) = sx := ⟨_, rfl⟩
          have Hsx := Lib.hid hsx
          rw [hsx] at Hst
          have hpl : (partP (pendFrom d y.body ts) ts k).length = n := by rw [partP_length (by rw [Hn.out]; exact hk), Hn.out]
          have hcl : (chis (partP (pendFrom d y.body ts) ts k)).length = n * 257 := by rw [chis_length, hpl]
          clear ht hsx hpl
          generalize hPk : partP (pendFrom d y.body ts) ts k = Pk at *
          clear hPk
          have hzr : N ≤ wr.heap.size := by rw [← hN]; exact HBk.out.size
          go_wp2_with fail
          have hS : ∀ W, RowV W gj 84 (jcs g q y) → W.cell? ⟨gj, 0, none⟩ = some (.pointer (some ⟨g, 0, none⟩)) ∧ W.cell? ⟨gj, 10, none⟩ = some (.int .i64 (y.body : Int)) := fun W hr => ⟨hr.cell (i := 0) rfl, hr.cell (i := 10) rfl⟩
          have hjr : RowV wr.drew gj 84 (jcs g q y) := HK.out _ HBk.out.drew
          have HBd : Hid (Below N w wr.drew) := HBk.out.drew
          have HRd : Hid (RowV wr.drew G4 66 (chis Pk)) := HRk.out
          have hzd : N ≤ wr.drew.heap.size := hzr
          clear HBk HRk hzr
          refine wp_region_held_drew (S := fun W => W.cell? ⟨gj, 0, none⟩ = some (.pointer (some ⟨g, 0, none⟩)) ∧ W.cell? ⟨gj, 10, none⟩ = some (.int .i64 (y.body : Int))) (by kernel_rfl) (hS _ hjr) (fun hHeld => ?_)
          generalize wr.drew = wd at *
          refine wpAnyH_take (i := 0) (oi := ⟨_, _, _, _, _, _⟩) (v := ?_) rfl (by kernel_rfl) (by kernel_rfl) (by kernel_rfl) (fun _ _ _ h => h) (Or.inl ⟨by rfl, ?_⟩) (by assumption) ?_
          rotate_left
          · rintro W ⟨s0, s1⟩; go_simp; try with_reducible rfl
          try simp only [Act.put, List.setIfInBounds_toArray, List.set_cons_zero, List.set_cons_succ]
          refine wpAnyH_take (i := 1) (oi := ⟨_, _, _, _, _, _⟩) (v := ?_) rfl (by kernel_rfl) (by kernel_rfl) (by kernel_rfl) (fun _ _ _ h => h) (Or.inl ⟨by rfl, ?_⟩) (by assumption) ?_
          rotate_left
          · rintro W ⟨s0, s1⟩; go_simp; try with_reducible rfl
          try simp only [Act.put, List.setIfInBounds_toArray, List.set_cons_zero, List.set_cons_succ]
          refine wpAnyH_take (i := 2) (oi := ⟨_, _, _, _, _, _⟩) (v := ?_) rfl (by kernel_rfl) (by kernel_rfl) (by kernel_rfl) (fun _ _ _ h => h) (Or.inl ⟨by rfl, ?_⟩) (by assumption) ?_
          rotate_left
          · rintro W ⟨s0, s1⟩; go_simp; try with_reducible rfl
          try simp only [Act.put, List.setIfInBounds_toArray, List.set_cons_zero, List.set_cons_succ]
          refine wpAnyH_take (i := 3) (oi := ⟨_, _, _, _, _, _⟩) (v := ?_) rfl (by kernel_rfl) (by kernel_rfl) (by kernel_rfl) (fun _ _ _ h => h) (Or.inl ⟨by rfl, ?_⟩) (by assumption) ?_
          rotate_left
          · rintro W ⟨s0, s1⟩; go_simp; try with_reducible rfl
          try simp only [Act.put, List.setIfInBounds_toArray, List.set_cons_zero, List.set_cons_succ]
          refine wpAnyH_take (i := 4) (oi := ⟨_, _, _, _, _, _⟩) (v := ?_) rfl (by kernel_rfl) (by kernel_rfl) (by kernel_rfl) (fun _ _ _ h => h) (Or.inl ⟨by rfl, ?_⟩) (by assumption) ?_
          rotate_left
          · rintro W ⟨s0, s1⟩; go_simp; try with_reducible rfl
          try simp only [Act.put, List.setIfInBounds_toArray, List.set_cons_zero, List.set_cons_succ]
          refine wpAnyH_take (i := 5) (oi := ⟨_, _, _, _, _, _⟩) (v := ?_) rfl (by kernel_rfl) (by kernel_rfl) (by kernel_rfl) (fun _ _ _ h => h) (Or.inl ⟨by rfl, ?_⟩) (by assumption) ?_
          rotate_left
          · rintro W ⟨s0, s1⟩; go_simp; try with_reducible rfl
          try simp only [Act.put, List.setIfInBounds_toArray, List.set_cons_zero, List.set_cons_succ]
          refine wpAnyH_take (i := 6) (oi := ⟨_, _, _, _, _, _⟩) (v := ?_) rfl (by kernel_rfl) (by kernel_rfl) (by kernel_rfl) (fun _ _ _ h => h) (Or.inl ⟨by rfl, ?_⟩) (by assumption) ?_
          rotate_left
          · rintro W ⟨s0, s1⟩; go_simp; try with_reducible rfl
          try simp only [Act.put, List.setIfInBounds_toArray, List.set_cons_zero, List.set_cons_succ]
          refine wpAnyH_take (i := 7) (oi := ⟨_, _, _, _, _, _⟩) (v := ?_) rfl (by kernel_rfl) (by kernel_rfl) (by kernel_rfl) (fun _ _ _ h => h) (Or.inl ⟨by rfl, ?_⟩) (by assumption) ?_
          rotate_left
          · rintro W ⟨s0, s1⟩; go_simp; try with_reducible rfl
          try simp only [Act.put, List.setIfInBounds_toArray, List.set_cons_zero, List.set_cons_succ]
          refine wpAnyH_take (i := 8) (oi := ⟨_, _, _, _, _, _⟩) (v := ?_) rfl (by kernel_rfl) (by kernel_rfl) (by kernel_rfl) (fun _ _ _ h => h) (Or.inl ⟨by rfl, ?_⟩) (by assumption) ?_
          rotate_left
          · rintro W ⟨s0, s1⟩; go_simp; try with_reducible rfl
          try simp only [Act.put, List.setIfInBounds_toArray, List.set_cons_zero, List.set_cons_succ]
          refine wpAnyH_take (i := 9) (oi := ⟨_, _, _, _, _, _⟩) (v := ?_) rfl (by kernel_rfl) (by kernel_rfl) (by kernel_rfl) (fun _ _ _ h => h) (Or.inl ⟨by rfl, ?_⟩) (by assumption) ?_
          rotate_left
          · rintro W ⟨s0, s1⟩; go_simp; try with_reducible rfl
          try simp only [Act.put, List.setIfInBounds_toArray, List.set_cons_zero, List.set_cons_succ]
          refine wpAnyH_take (i := 10) (oi := ⟨_, _, _, _, _, _⟩) (v := ?_) rfl (by kernel_rfl) (by kernel_rfl) (by kernel_rfl) (fun _ _ _ h => h) (Or.inl ⟨by rfl, ?_⟩) (by assumption) ?_
          rotate_left
          · rintro W ⟨s0, s1⟩; go_simp; try with_reducible rfl
          try simp only [Act.put, List.setIfInBounds_toArray, List.set_cons_zero, List.set_cons_succ]
          refine wpAnyH_take (i := 11) (oi := ⟨_, _, _, _, _, _⟩) (v := ?_) rfl (by kernel_rfl) (by kernel_rfl) (by kernel_rfl) (fun _ _ _ h => h) (Or.inl ⟨by rfl, ?_⟩) (by assumption) ?_
          rotate_left
          · rintro W ⟨s0, s1⟩; go_simp; try with_reducible rfl
          try simp only [Act.put, List.setIfInBounds_toArray, List.set_cons_zero, List.set_cons_succ]
          refine wpAnyH_take (i := 12) (oi := ⟨_, _, _, _, _, _⟩) (v := .int .i64 ((y.body : Int) + (k : Int))) rfl (by kernel_rfl) (by kernel_rfl) (by kernel_rfl) (fun _ _ _ h => h) (Or.inl ⟨by rfl, ?_⟩) (by assumption) ?_
          · rintro W ⟨s0, s1⟩; go_simp; first | done | exact IntWalk.i64_in _ (by omega) | (rw [IntWalk.i64_in _ (by omega)]; omega)
          try simp only [Act.put, List.setIfInBounds_toArray, List.set_cons_zero, List.set_cons_succ]
          refine wpAnyH_ready (rs := [13]) (by kernel_rfl) (by simp) ?_
          refine AllReadyH.cons (o := ⟨_, _, _, _, _, _⟩) rfl (fun K hK => ?_) AllReadyH.nil
          go_simp
          rw [show (y.body : Int) + (k : Int) = ((y.body + k : Nat) : Int) by omega]
          refine (HR.out wd HBd.out (y.body + k) (by omega)).mono ?_
          rintro e v1 ⟨rfl, hbb⟩
          rw [Hsx.out]
          try simp only []
          have hb1 : Below N w v1 := HBd.out.trans (hbb.mono hzd)
          have hz1 : N ≤ v1.heap.size := by have := hbb.size; omega
          have hr1 := HRd.out.below HRd.out.lt hbb
          refine hK.out _ _ (hS _ (HK.out _ hb1)) (fun hHeld => ?_)
          clear hK K hbb HBd HRd hjr
          try simp only [Act.put, List.setIfInBounds_toArray, List.set_cons_zero, List.set_cons_succ]
          refine wpAnyH_take (i := 14) (oi := ⟨_, _, _, _, _, _⟩) (v := ?_) rfl (by kernel_rfl) (by kernel_rfl) (by kernel_rfl) (fun _ _ _ h => h) (Or.inl ⟨by rfl, ?_⟩) (by assumption) ?_
          rotate_left
          · rintro W ⟨s0, s1⟩; go_simp; try with_reducible rfl
          try simp only [Act.put, List.setIfInBounds_toArray, List.set_cons_zero, List.set_cons_succ]
          refine wpAnyH_take (i := 15) (oi := ⟨_, _, _, _, _, _⟩) (v := ?_) rfl (by kernel_rfl) (by kernel_rfl) (by kernel_rfl) (fun _ _ _ h => h) (Or.inl ⟨by rfl, ?_⟩) (by assumption) ?_
          rotate_left
          · rintro W ⟨s0, s1⟩; go_simp; try with_reducible rfl
          try simp only [Act.put, List.setIfInBounds_toArray, List.set_cons_zero, List.set_cons_succ]
          refine wpAnyH_take (i := 16) (oi := ⟨_, _, _, _, _, _⟩) (v := ?_) rfl (by kernel_rfl) (by kernel_rfl) (by kernel_rfl) (fun _ _ _ h => h) (Or.inl ⟨by rfl, ?_⟩) (by assumption) ?_
          rotate_left
          · rintro W ⟨s0, s1⟩; go_simp; try with_reducible rfl
          try simp only [Act.put, List.setIfInBounds_toArray, List.set_cons_zero, List.set_cons_succ]
          refine wpAnyH_take (i := 17) (oi := ⟨_, _, _, _, _, _⟩) (v := .pointer (some ⟨G4, k * 257, none⟩)) rfl (by kernel_rfl) (by kernel_rfl) (by kernel_rfl) (fun _ _ _ h => h) (Or.inl ⟨by rfl, ?_⟩) (by assumption) ?_
          · rintro W ⟨s0, s1⟩; go_simp; try with_reducible rfl
          try simp only [Act.put, List.setIfInBounds_toArray, List.set_cons_zero, List.set_cons_succ]
          refine wpAnyH_take (i := 18) (oi := ⟨_, _, _, _, _, _⟩) (v := .pointer (some ⟨G4, k * 257 + 1, none⟩)) rfl (by kernel_rfl) (by kernel_rfl) (by kernel_rfl) (fun _ _ _ h => h) (Or.inl ⟨by rfl, ?_⟩) (by assumption) ?_
          · rintro W ⟨s0, s1⟩; go_simp; try with_reducible rfl
          try simp only [Act.put, List.setIfInBounds_toArray, List.set_cons_zero, List.set_cons_succ]
          refine wpAnyH_ready (rs := [19]) (by kernel_rfl) (by simp) ?_
          refine AllReadyH.cons (o := ⟨_, _, _, _, _, _⟩) rfl (fun K hK => ?_) AllReadyH.nil
          refine ite_yes rfl ?_
          have hml : (chis Pk).length ≤ maxLen := by rw [hcl]; unfold maxLen; omega
          obtain ⟨hr2, hg2⟩ := row_put hr1 hml sx.cs (k * 257 + 1) (by rw [hcl, Sec.cs_length]; omega)
          rw [chi_put_sec Hat.out, Hst.out] at hr2
          refine wp_store_mid 23 (.tmp 64) (.tmp 61) rfl G4 (k * 257 + 1) sx.cs.toArray rfl rfl (row_there hr1 hml _ _ (by rw [hcl, List.size_toArray, Sec.cs_length]; omega)) (sec_size' sx) (sec_all sx) ?_
          have hG4 : N ≤ G4 := by omega
          have hb2 : Below N w (v1.setCells G4 (k * 257 + 1) sx.cs) := below_grown hb1 hg2 hG4 hz1
          refine hK.out _ _ (hS _ (HK.out _ hb2)) (fun hHeld => ?_)
          generalize v1.setCells G4 (k * 257 + 1) sx.cs = v2 at *
          have HR2 := Lib.hid hr2
          have HB2 := Lib.hid hb2
          clear hK K hr1 hb1 hr2 hb2 hg2 hml
          try simp only [Act.put, List.setIfInBounds_toArray, List.set_cons_zero, List.set_cons_succ]
          refine wpAnyH_take (i := 20) (oi := ⟨_, _, _, _, _, _⟩) (v := ?_) rfl (by kernel_rfl) (by kernel_rfl) (by kernel_rfl) (fun _ _ _ h => h) (Or.inl ⟨by rfl, ?_⟩) (by assumption) ?_
          rotate_left
          · rintro W ⟨s0, s1⟩; go_simp; try with_reducible rfl
          try simp only [Act.put, List.setIfInBounds_toArray, List.set_cons_zero, List.set_cons_succ]
          refine wpAnyH_done (by kernel_rfl) ?_ _
          go_wp2_with fail
          go_roundw
          case rel => exact ⟨k + 1, by omega, by go_num, rfl, HR2, HB2⟩
          case measure => simp [intOf]; omega
        · obtain rfl : k = n := by omega
          have he : partP (pendFrom d y.body ts) ts k = pendFrom d y.body ts := by
            unfold partP
            rw [List.take_of_length_le (by rw [pendFrom_length, Hn.out]; exact Nat.le_refl _), List.drop_eq_nil_of_le (by rw [blanks_length, Hn.out]; exact Nat.le_refl _), List.append_nil]
          have hr := HRk.out
          rw [he] at hr
          have HRe := Lib.hid hr
          clear hr he HRk
          go_wp2_with fail
          go_ret2
          rw [Hp2.out]
          exact ⟨_, _, _, rfl, by rw [pendFrom_length, Hn.out], Nat.le_refl _, LiesV.of_row HRe.out, fun a ha => by injection ha with ha; subst ha; simp only; omega, by first | exact HBk.out | (rw [hN]; exact HBk.out)⟩
end Go.Proofs.Ytgkmbnmelepenaa
namespace Go.Proofs.Ytgkmbnmelepenaa
open Go.RowKit
set_option linter.unusedVariables false
set_option linter.unusedSimpArgs false

/-- How many changes a Recover tells. -/
def recN (y : Jl) (d : Dk) : Int := if (recoverD y d).2 = 0 then ((pendL y d).length : Int) else 0
theorem recover_code (y : Jl) (d : Dk) : (recoverD y d).2 = 0 ∨ (recoverD y d).2 = 4 := complete_code d
set_option maxRecDepth 100000 in
set_option maxHeartbeats 1000000 in
theorem jrecover_any (w : World) (base : Nat) (L : List Nat) (g gj : Nat) (q : Lq) (y : Jl) (d : Dk) (N : Nat) (hJ : Jr w base L g gj q y d) (hy : y.Ok) (hd : d.down = false) (hf : Fit y.total d N) (hN : N + 40000 < 1000000) :
    Calls Try.prog 25 #[.pointer (some ⟨gj, 0, none⟩)] w fun e w' => e = .returned (.tuple #[.int .i64 (recN y d), .int .i64 (recoverD y d).2]) ∧ Turned w base L g (recoverD y d).1 w' := by
  have HJ := Lib.hid hJ
  have Hy := Lib.hid hy
  have Hf := Lib.hid hf
  have Hrec : Hid (recoverD y d = completeD y (pendL y d) d) := rfl
  have Hnum : Hid (recN y d = if (recoverD y d).2 = 0 then ((pendL y d).length : Int) else 0) := rfl
  have Hcode := Lib.hid (recover_code y d)
  have hpl : (pendL y d).length ≤ 123 := Nat.le_trans (pend_length d) hy.room
  clear hJ hy hf
  obtain ⟨P, hP⟩ : ∃ P, pendL y d = P := ⟨_, rfl⟩
  have HP := Lib.hid hP
  rw [hP] at Hrec Hnum hpl
  clear hP
  go_enter Try.func25, Try.ntmps25
  go_wp2_with fail
  refine (jpending_any w base L g gj q y d N HJ.out Hy.out hd Hf.out).mono ?_
  rintro e w1 ⟨A, n, c, rfl, hn, hnc, hl, hfr, hb1⟩
  rw [HP.out] at hn hl
  have HJ1 := Lib.hid (HJ.out.below hb1)
  have HC1 : Hid (Chs w1 L A P) := ⟨hl, fun _ a ha hm => by have := hfr a ha; have := (HJ.out.disk.lt hm).2; omega⟩
  have Hb1 := Lib.hid hb1
  have Hn := Lib.hid hn
  have hn1 : n ≤ 123 := by omega
  clear hl hfr hb1 hn HJ
  obtain ⟨r, hr⟩ : ∃ r, (recoverD y d).2 = r := ⟨_, rfl⟩
  have Hr := Lib.hid hr
  have hr2 : (completeD y P d).2 = r := by rw [← Hrec.out]; exact hr
  have Hr2 := Lib.hid hr2
  rw [hr] at Hcode Hnum
  clear hr hr2
  go_wp2_with fail
  refine (jcomplete_any w1 base L g gj q y d P A n c _ N HJ1.out Hy.out HC1.out Hn.out (by omega) Hf.out (by omega)).mono ?_
  rintro e w2 ⟨rfl, ht⟩
  rw [Hr2.out]
  have HT : Hid (Turned w base L g (recoverD y d).1 w2) := by show Turned _ _ _ _ _ _; rw [Hrec.out]; exact Turned.of Hb1.out ht
  clear ht
  by_cases hz : r = 0
  · have hnum : Hid (recN y d = (n : Int)) := by show _ = _; rw [Hnum.out, if_pos hz, Hn.out]
    rw [hz]
    go_wp2_with fail
    go_ret2
    rw [hnum.out, Hr.out, hz]
    exact ⟨rfl, HT.out⟩
  · have hnum : Hid (recN y d = 0) := by show _ = _; rw [Hnum.out, if_neg hz]
    have h4 : r = 4 := Hcode.out.resolve_left hz
    rw [h4]
    go_wp2_with fail
    go_ret2
    rw [hnum.out, Hr.out, h4]
    exact ⟨rfl, HT.out⟩

set_option maxRecDepth 100000 in
theorem jcost_any (w : World) (g gj : Nat) (q : Lq) (y : Jl) (n : Nat) (hr : RowV w gj 84 (jcs g q y)) (hy : y.Ok) (hn : n ≤ 1000) :
    Calls Try.prog 26 #[.pointer (some ⟨gj, 0, none⟩), .int .i64 (n : Int)] w fun e w' => e = .returned (.int .i64 (2 * (n : Int) + (y.room : Int) + 7)) ∧ w' = w := by
  have j14 := hr.cell (i := 14) rfl
  have h1 := hy.room
  clear hr hy
  go_enter Try.func26, Try.ntmps26
  go_wp2_with fail
  go_ret
  exact ⟨rfl, rfl⟩

theorem Try.builtJ (g : Nat) (q : Lq) (y : Jl) : Try.prog.built 84 [(0, .pointer (some ⟨g, 0, none⟩)), (1, .agg (lq q y).toArray)] = some (jcs g q y).toArray := by kernel_rfl
set_option maxRecDepth 100000 in
set_option maxHeartbeats 1000000 in
theorem jnew_any (w : World) (g : Nat) (q : Lq) (y : Jl) :
    Calls Try.prog 34 #[.pointer (some ⟨g, 0, none⟩), .agg (lq q y).toArray] w fun e w' => ∃ gj, e = .returned (.pointer (some ⟨gj, 0, none⟩)) ∧ RowV w' gj 84 (jcs g q y) ∧ w.heap.size ≤ gj ∧ Below w.heap.size w w' := by
  have szL : (Try.prog.info? 30).map (·.size) = some (lq q y).toArray.size := Try.sizeLay
  go_enter Try.func34, Try.ntmps34
  go_wp2_with ((with_reducible refine at_box 30 ?_); refine wpList_box_rowV rfl 30 _ rfl (lq q y) rfl ?_)
  intro w1 hr1 hb1 hs1
  go_wp2_with (first
    | ((with_reducible refine at_load 30 ?_); refine wpList_load_row rfl 30 _ rfl w.heap.size rfl 30 _ (0, 0) _ hr1 Try.underlying30 rfl szL ?_)
    | ((with_reducible refine at_build 84 ?_); refine wpList_build_to rfl 84 _ rfl (jcs g q y) (by rw [Array.toList_map]; exact Try.builtJ _ _ _) ?_)
    | ((with_reducible refine at_box 84 ?_); refine wpList_box_rowV rfl 84 _ rfl (jcs g q y) rfl ?_))
  intro w2 hr2 hb2 hs2
  go_wp2_with fail
  go_ret
  exact ⟨_, rfl, hr2, by omega, hb1.trans (hb2.mono (by omega))⟩
end Go.Proofs.Ytgkmbnmelepenaa
namespace Go.Proofs.Ytgkmbnmelepenaa
open Go.RowKit
set_option linter.unusedVariables false
set_option linter.unusedSimpArgs false

theorem at_eqlG {P : Program} {w : World} {ops : Array Oper} {rest : List Oper} {a : Act} {Q : Exit → Act → World → Prop} {d : Option Tmp} {x y : Operand} {u v : TypeId} {p : String} {af : Array Edge} {gd : Nat × Bool} (ty : TypeId)
    (h : wpList P ops Q (⟨d, .binOp .eql ty x y v, u, p, af, some gd⟩ :: rest) a w) : wpList P ops Q (⟨d, .binOp .eql ty x y v, u, p, af, some gd⟩ :: rest) a w := h
theorem at_buildG {P : Program} {w : World} {ops : Array Oper} {rest : List Oper} {a : Act} {Q : Exit → Act → World → Prop} {d : Option Tmp} {x : Array (Nat × Operand)} {u : TypeId} {p : String} {af : Array Edge} {gd : Nat × Bool} (ty : TypeId)
    (h : wpList P ops Q (⟨d, .build ty x, u, p, af, some gd⟩ :: rest) a w) : wpList P ops Q (⟨d, .build ty x, u, p, af, some gd⟩ :: rest) a w := h
theorem eql_secG {w : World} {ops : Array Oper} {rest : List Oper} {o : Oper} {A : Act} {Q : Exit → Act → World → Prop} (hw : Region.wanted o (yielded ops A.tmps) = true) (x y : Operand) (u : TypeId) (ho : o.op = .binOp .eql 23 x y u) (s t : Sec)
    (hx : A.eval x = .agg s.cs.toArray) (hy : A.eval y = .agg t.cs.toArray)
    (h : wpList Try.prog ops Q rest (A.put o.dst (.bool (decide (s = t)))) w) : wpList Try.prog ops Q (o :: rest) A w := by
  refine wpList_wants hw fun K hK => ?_
  unfold Oper.wp
  rw [exec_eql_sec x y u ho s t hx hy]
  exact hK _ _ h
theorem zero_secG {w : World} {ops : Array Oper} {rest : List Oper} {o : Oper} {A : Act} {Q : Exit → Act → World → Prop} (hw : Region.wanted o (yielded ops A.tmps) = true) (ho : o.op = .build 23 #[])
    (h : wpList Try.prog ops Q rest (A.put o.dst (.agg zeroSec.cs.toArray)) w) : wpList Try.prog ops Q (o :: rest) A w := by
  refine wpList_wants hw fun K hK => ?_
  unfold Oper.wp
  rw [exec_built 23 #[] ho zeroSec.cs Try.built0]
  exact hK _ _ h

set_option maxRecDepth 100000 in
set_option maxHeartbeats 2000000 in
theorem jblank1_any (w : World) (base : Nat) (L : List Nat) (g gj : Nat) (q : Lq) (y : Jl) (d : Dk) (N0 x : Nat) (hJ : Jr w base L g gj q y d) (hd : d.down = false) (hf : Fit y.total d N0) (hx : x < y.total) :
    Calls Try.prog 59 #[.pointer (some ⟨gj, 0, none⟩), .int .i64 (x : Int)] w fun e w' => e = .returned (.bool (decide (Dk.look d.dur d.wait x = zeroSec))) ∧ Below w.heap.size w w' := by
  obtain ⟨s, hs⟩ : ∃ s, Dk.look d.dur d.wait x = s := ⟨_, rfl⟩
  have HR : Hid (∀ W, Below w.heap.size w W → Calls Try.prog 28 #[.pointer (some ⟨g, 0, none⟩), .int .i64 (x : Int)] W fun e W' => e = .returned (.tuple #[.agg s.cs.toArray, .int .i64 0]) ∧ Below W.heap.size W W') := by
    intro W hb
    obtain ⟨vd, vw, bm, h, _⟩ := hJ.disk.below hb
    refine (dread_any W base g bm vd vw d (x : Int) hf.ok h).mono ?_
    rintro e W' ⟨rfl, hb'⟩
    rw [read_up hd (by rw [hf.len]; exact hx), hs]
    exact ⟨rfl, hb'⟩
  have HK : Hid (∀ W, Below w.heap.size w W → RowV W gj 84 (jcs g q y)) := fun W hb => hJ.row.below hJ.row.lt hb
  have j0 := hJ.row.cell (i := 0) rfl
  rw [hs]
  clear hJ hf hs
  go_enter Try.func59, Try.ntmps59
  go_wp2_with fail
  clear j0
  refine (HR.out w (Below.refl _ _)).mono ?_
  rintro e w1 ⟨rfl, hb1⟩
  go_wp2_with ((with_reducible refine at_alloc 23 ?_); refine alloc_sec rfl rfl ?_)
  intro w2 hr2 hb2 hs2
  have hB2 := below_seq hb1 hb2
  have hz1 := hb1.size
  clear hb1 hb2
  generalize hG : w1.heap.size = G at *
  go_wp2_with ((with_reducible refine at_store 23 ?_); refine store_sec rfl _ _ rfl G s rfl rfl hr2 (Sec.cs_length _) ?_)
  intro w3 hr3 hg3 hs3
  have hB3 : Below w.heap.size w w3 := below_grown hB2 hg3 hz1 (by omega)
  clear hr2 hg3 hs3 hB2
  go_wp2_with (first
    | ((with_reducible refine at_loadG 23 ?_); refine load_secG rfl _ rfl G rfl hr3 ?_)
    | ((with_reducible refine at_buildG 23 ?_); refine zero_secG rfl rfl ?_)
    | ((with_reducible refine at_eqlG 23 ?_); refine eql_secG rfl _ _ _ rfl s zeroSec rfl rfl ?_))
  go_ret
  exact ⟨rfl, hB3⟩

theorem clean_step {y : Jl} {d : Dk} {k : Nat} : ((List.range (k + 1)).all fun i => decide (Dk.look d.dur d.wait (y.body + i) = zeroSec)) = (((List.range k).all fun i => decide (Dk.look d.dur d.wait (y.body + i) = zeroSec)) && decide (Dk.look d.dur d.wait (y.body + k) = zeroSec)) := by
  rw [List.range_succ, List.all_append]
  simp
theorem clean_no {y : Jl} {d : Dk} {k : Nat} (hk : k < y.room) (h : Dk.look d.dur d.wait (y.body + k) ≠ zeroSec) : cleanD y d = false := by
  unfold cleanD
  rw [Bool.and_eq_false_iff]
  right
  rw [List.all_eq_false]
  exact ⟨k, List.mem_range.2 hk, by simpa using h⟩
set_option maxRecDepth 100000 in
set_option maxHeartbeats 1000000 in
theorem jclean_any (w : World) (base : Nat) (L : List Nat) (g gj : Nat) (q : Lq) (y : Jl) (d : Dk) (N0 : Nat) (hJ : Jr w base L g gj q y d) (hy : y.Ok) (hd : d.down = false) (hf : Fit y.total d N0) :
    Calls Try.prog 29 #[.pointer (some ⟨gj, 0, none⟩)] w fun e w' => e = .returned (.bool (cleanD y d)) ∧ Below w.heap.size w w' := by
  have HJ := Lib.hid hJ
  have Hf := Lib.hid hf
  have hhead : y.head < y.total := by have := hy.body; have := hy.total; omega
  have hbody := hy.total
  have hsm := hy.small
  have j9 := hJ.row.cell (i := 9) rfl
  clear hJ hf hy
  go_enter Try.func29, Try.ntmps29
  go_wp2_with fail
  clear j9
  refine (jblank1_any w base L g gj q y d N0 y.head HJ.out hd Hf.out hhead).mono ?_
  rintro e w1 ⟨rfl, hb1⟩
  by_cases hh : Dk.look d.dur d.wait y.head = zeroSec
  case neg =>
    have hc : Hid (cleanD y d = false) := by show _ = _; unfold cleanD; rw [decide_eq_false hh]; rfl
    rw [decide_eq_false hh]
    go_wp2_with fail
    go_ret
    rw [hc.out]
    exact ⟨rfl, hb1⟩
  have HH := Lib.hid hh
  rw [decide_eq_true hh]
  clear hh
  have Hb1 := Lib.hid hb1
  have j14 := (HJ.out.below hb1).row.cell (i := 14) rfl
  clear hb1
  go_wp2_with fail
  clear j14
  generalize hrr : y.room = n at *
  go_loopw [17] (fun v W => ∃ k : Nat, k ≤ n ∧ v = .int .i64 k ∧ Hid (((List.range k).all fun i => decide (Dk.look d.dur d.wait (y.body + i) = zeroSec)) = true) ∧ Hid (Below w.heap.size w W)) (fun v _ => n - (intOf v).toNat)
  case atStart => exact ⟨0, Nat.zero_le _, rfl, rfl, Hb1⟩
  case round =>
    obtain ⟨k, hk, rfl, HA, HB⟩ := hrel
    by_cases hlt : k < n
    · have hlt' : (k : Int) < (n : Int) := by omega
      have hk0 : (0 : Int) ≤ (k : Int) := by omega
      have HJr := Lib.hid (HJ.out.below HB.out)
      have j10 := HJr.out.row.cell (i := 10) rfl
      go_wp2_with fail
      clear j10
      rw [show (y.body : Int) + (k : Int) = ((y.body + k : Nat) : Int) by omega]
      refine (jblank1_any _ base L g gj q y d N0 (y.body + k) HJr.out hd Hf.out (by omega)).mono ?_
      rintro e w2 ⟨rfl, hb2⟩
      have HB2 := Lib.hid (HB.out.trans (hb2.mono HB.out.size))
      clear hb2 HJr
      by_cases hh : Dk.look d.dur d.wait (y.body + k) = zeroSec
      · have HA2 : Hid (((List.range (k + 1)).all fun i => decide (Dk.look d.dur d.wait (y.body + i) = zeroSec)) = true) := by
          show _ = _
          rw [clean_step, HA.out, decide_eq_true hh]
          rfl
        rw [decide_eq_true hh]
        clear hh HA
        go_wp2_with fail
        go_roundw
        case rel => exact ⟨k + 1, by omega, by go_num, HA2, HB2⟩
        case measure => simp [intOf]; omega
      · have hc := Lib.hid (clean_no (y := y) (by rw [hrr]; exact hlt) hh)
        rw [decide_eq_false hh]
        clear hh HA
        go_wp2_with fail
        go_ret
        rw [hc.out]
        exact ⟨rfl, HB2.out⟩
    · obtain rfl : k = n := by omega
      have hc : Hid (cleanD y d = true) := by
        show _ = _
        unfold cleanD
        rw [decide_eq_true HH.out, hrr, HA.out]
        rfl
      clear HA
      go_wp2_with fail
      go_ret
      rw [hc.out]
      exact ⟨rfl, HB.out⟩
end Go.Proofs.Ytgkmbnmelepenaa
namespace Go.Proofs.Ytgkmbnmelepenaa
open Go.RowKit
set_option linter.unusedVariables false
set_option linter.unusedSimpArgs false

theorem built0p : Try.prog.built 28 [(0, .int .i64 3), (1, .int .i64 2), (2, .int .i64 2), (3, .int .i64 2)] = some (pc 3 2 2 2).toArray := by kernel_rfl
theorem pc0_all : (pc 3 2 2 2).toArray.all (·.oneCell') = true := by simp [pc, Value.oneCell']
theorem Try.zeroPl : (Try.prog.info? 28).bind (·.zero) = some (.agg (pc 0 0 0 0).toArray) := by kernel_rfl
set_option maxRecDepth 100000 in
theorem jsmall_any (w : World) : Calls Try.prog 16 #[] w fun e w' => e = .returned (.agg (pc 3 2 2 2).toArray) ∧ Below w.heap.size w w' := by
  go_enter Try.func16, Try.ntmps16
  go_wp2_with ((with_reducible refine at_alloc 28 ?_); refine wpList_alloc_rowV rfl 28 rfl (pc 0 0 0 0) Try.zeroPl ?_)
  intro w1 hr1 hb1 hs1
  go_wp2_with (first
    | ((with_reducible refine at_build 28 ?_); refine wpList_build_to rfl 28 _ rfl (pc 3 2 2 2) (by rw [Array.toList_map]; exact built0p) ?_)
    | ((with_reducible refine at_store 28 ?_); refine wpList_store_rowV rfl 28 _ _ rfl w.heap.size (pc 3 2 2 2) rfl rfl 28 (pc 0 0 0 0) hr1 (pc_size _ _ _ _) rfl pc0_all ?_))
  intro w2 hr2 hg2 hs2
  go_wp2_with fail
  exact bodyPost_ret (results_cell_row (fn := Try.f16) rfl _ _ w.heap.size 28 _ (0, 0) _ rfl hr2 Try.underlying28 rfl (pc_size _ _ _ _)) rfl ⟨rfl, below_grown hb1 hg2 (Nat.le_refl _) (by omega)⟩

def q0 : Lq := ⟨3, 2, 2, 2, 5, 6, 8, 10, 25, 6⟩
theorem lay0 : lay 3 2 2 2 = lq q0 y0 := by rfl
theorem results_two_cell_tmp {P : Program} {fn : Func} {p1 p2 p q : Tmp} {ty : TypeId} (h : fn.results = #[.tmp p1, .tmp p2, .cell p ty, .tmp q]) (tmps : Array Value) (w : World) (g : Nat) (t : TypeId) (cs : Array Value) (fr : Nat × Nat) (d : TypeDesc)
    (v1 : Value) (h1 : tmps.getD p1 undef = v1) (v2 : Value) (h2 : tmps.getD p2 undef = v2) (hp : tmps.getD p undef = .pointer (some ⟨g, 0, none⟩)) (v : Value) (hq : tmps.getD q undef = v) (hg : w.heap[g]? = some (.cells cs t fr))
    (hu : P.underlying ty = some d) (hd : (match d with | .struct _ | .array _ _ => true | _ => false) = true) (hi : (P.info? ty).map (·.size) = some cs.size) :
    (results fn tmps).run P w = .ok (.tuple #[v1, v2, .agg cs, v]) w := by
  have hp' : tmps[p]?.getD undef = .pointer (some ⟨g, 0, none⟩) := by simpa using hp
  have hq' : tmps[q]?.getD undef = v := by simpa using hq
  have h1' : tmps[p1]?.getD undef = v1 := by simpa using h1
  have h2' : tmps[p2]?.getD undef = v2 := by simpa using h2
  simp [results, h, hp', hq', h1', h2', asAddr, run_loadVar_row w g t ty cs fr d hg hu hd hi]
theorem new_fit : Fit y0.total (Dk.new 28) 0 := ⟨new_ok (by omega) (by omega), by simp [Dk.new, y0], Nat.le_refl _, Nat.le_refl _⟩
theorem new_rest : Rest (· = List.replicate y0.total zeroSec) (Dk.new 28) := ⟨rfl, rfl, rfl, rfl⟩

set_option maxRecDepth 100000 in
set_option maxHeartbeats 2000000 in
theorem jbegin_any (w : World) : Calls Try.prog 8 #[] w fun e w' => ∃ g gj L, e = .returned (.tuple #[.pointer (some ⟨g, 0, none⟩), .pointer (some ⟨gj, 0, none⟩), .agg (lay 3 2 2 2).toArray, .bool true]) ∧ Jr w' w.heap.size L g gj q0 y0 (Dk.new 28) ∧ Below w.heap.size w w' := by
  go_enter Try.func8, Try.ntmps8
  go_wp2_with ((with_reducible refine at_alloc 30 ?_); refine wpList_alloc_rowV rfl 30 rfl lc0 Try.zeroL ?_)
  intro w1 hr1 hb1 hs1
  have hN1 : w.heap.size < w1.heap.size := by omega
  clear hs1
  generalize hN : w.heap.size = N at *
  go_wp2_with fail
  refine (jsmall_any w1).mono ?_
  rintro e w2 ⟨rfl, hb2⟩
  go_wp2_with fail
  refine (of_yes w2 3 2 2 2 (by decide)).mono ?_
  rintro e w3 ⟨rfl, hb3⟩
  have hb13 := below_seq hb2 hb3
  have hr3 := hr1.below hN1 hb13
  have hB3 : Below N w w3 := hb1.trans (hb13.mono (by omega))
  have hN3 : N < w3.heap.size := Nat.lt_of_lt_of_le hN1 hb13.size
  clear hr1 hb1 hb2 hb3 hb13 hN1
  go_wp2_with ((with_reducible refine at_alloc 30 ?_); refine wpList_alloc_rowV rfl 30 rfl lc0 Try.zeroL ?_)
  intro w4 hl4 hb4 hs4
  have hr4 := hr3.below hN3 hb4
  have hB4 : Below N w w4 := hB3.trans (hb4.mono (by omega))
  clear hr3 hB3 hb4
  generalize hN4 : w3.heap.size = N4 at *
  clear hN4
  go_wp2_with ((with_reducible refine at_store 30 ?_); refine store_lay rfl _ _ rfl N4 3 2 2 2 5 6 8 10 12 13 25 28 6 12 rfl rfl hl4 rfl ?_)
  intro w5 hl5 hg5 hs5
  have hr5 := hr4.keep hg5 (fun e => by injection e with e; omega)
  have hB5 : Below N w w5 := below_grown hB4 hg5 (by omega) (by omega)
  have hN5 : N4 < w5.heap.size := by omega
  have c11 := hl5.cell (i := 11) rfl
  clear hl4 hr4 hg5 hs5 hs4 hB4
  go_wp2_with fail
  refine (dnew_any w5 28 (by omega) (by omega)).mono ?_
  rintro e w6 ⟨g, L, rfl, hD, hb6⟩
  have hr6 := hr5.below (by omega) hb6
  have hl6 := hl5.below (by omega) hb6
  have hB6 : Below N w w6 := hB5.trans (hb6.mono (by omega))
  have hN6 : N4 < w6.heap.size := Nat.lt_of_lt_of_le hN5 hb6.size
  have hD6 : Disk w6 N L g (Dk.new 28) := hD.lower (by omega)
  have hlo : ∀ k ∈ L, N4 < k := fun k hk => by have := (hD.lt hk).1; omega
  clear hr5 hl5 hB5 hb6 hD c11 hN5
  go_wp2_with ((with_reducible refine at_load 30 ?_); refine load_lay rfl _ rfl N4 rfl hl6 ?_)
  refine (jnew_any w6 g q0 y0).mono ?_
  rintro e w7 ⟨gj, rfl, hj7, hgj, hb7⟩
  have hr7 := hr6.below (by omega) hb7
  have hl7 := hl6.below (by omega) hb7
  have hB7 : Below N w w7 := hB6.trans (hb7.mono (by omega))
  have hN7 : N4 < w7.heap.size := Nat.lt_of_lt_of_le hN6 hb7.size
  have hD7 := hD6.below hb7
  have hJ7 : Jr w7 N L g gj q0 y0 (Dk.new 28) := ⟨hD7, hj7, fun hm => by have := (hD6.lt hm).2; omega, by omega⟩
  have HJ7 := Lib.hid hJ7
  have hgj4 : N4 < gj := by omega
  clear hr6 hl6 hB6 hb7 hD6 hj7 hD7 hJ7 hgj hN6
  go_wp2_with fail
  have hS : RowV w7.drew N4 30 (lay 3 2 2 2) := hl7
  have hr8 : RowV w7.drew N 30 lc0 := hr7
  have HJ8 : Hid (Jr w7.drew N L g gj q0 y0 (Dk.new 28)) := HJ7.out.drew
  have hB8 : Below N w w7.drew := hB7.drew
  have szL : (Try.prog.info? 30).map (·.size) = some (lay 3 2 2 2).length := Try.sizeLay
  refine wp_region_held_drew (S := fun W => RowV W N4 30 (lay 3 2 2 2)) (by kernel_rfl) hS (fun hHeld => ?_)
  have hzd : N4 < w7.drew.heap.size := hN7
  clear hl7 hr7 HJ7 hB7 hN7
  generalize w7.drew = wd at *
  refine wpAnyH_take (i := 0) (oi := ⟨_, _, _, _, _, _⟩) (v := ?_) rfl (by kernel_rfl) (by kernel_rfl) (by kernel_rfl) (fun _ _ _ h => h) (Or.inl ⟨by rfl, ?_⟩) (by assumption) ?_
  rotate_left
  · intro W hSW; go_simp; try with_reducible rfl
  try simp only [Act.put, List.setIfInBounds_toArray, List.set_cons_zero, List.set_cons_succ]
  refine wpAnyH_take (i := 1) (oi := ⟨_, _, _, _, _, _⟩) (v := ?_) rfl (by kernel_rfl) (by kernel_rfl) (by kernel_rfl) (fun _ _ _ h => h) (Or.inl ⟨by rfl, ?_⟩) (by assumption) ?_
  rotate_left
  · intro W hSW; go_simp; try with_reducible rfl
  try simp only [Act.put, List.setIfInBounds_toArray, List.set_cons_zero, List.set_cons_succ]
  refine wpAnyH_take (i := 2) (oi := ⟨_, _, _, _, _, _⟩) (v := .agg (lay 3 2 2 2).toArray) rfl (by kernel_rfl) (by kernel_rfl) (by kernel_rfl) (fun _ _ _ h => h) (Or.inl ⟨by rfl, ?_⟩) (by assumption) ?_
  · intro W hSW; exact exec_load_row 30 (.tmp 4) rfl N4 rfl _ hSW Try.underlying30 rfl szL
  try simp only [Act.put, List.setIfInBounds_toArray, List.set_cons_zero, List.set_cons_succ]
  refine wpAnyH_take (i := 3) (oi := ⟨_, _, _, _, _, _⟩) (v := ?_) rfl (by kernel_rfl) (by kernel_rfl) (by kernel_rfl) (fun _ _ _ h => h) (Or.inl ⟨by rfl, ?_⟩) (by assumption) ?_
  rotate_left
  · intro W hSW; go_simp; try with_reducible rfl
  try simp only [Act.put, List.setIfInBounds_toArray, List.set_cons_zero, List.set_cons_succ]
  refine wpAnyH_take (i := 4) (oi := ⟨_, _, _, _, _, _⟩) (v := ?_) rfl (by kernel_rfl) (by kernel_rfl) (by kernel_rfl) (fun _ _ _ h => h) (Or.inl ⟨by rfl, ?_⟩) (by assumption) ?_
  rotate_left
  · intro W hSW; go_simp; try with_reducible rfl
  try simp only [Act.put, List.setIfInBounds_toArray, List.set_cons_zero, List.set_cons_succ]
  refine wpAnyH_take (i := 5) (oi := ⟨_, _, _, _, _, _⟩) (v := ?_) rfl (by kernel_rfl) (by kernel_rfl) (by kernel_rfl) (fun _ _ _ h => h) (Or.inl ⟨by rfl, ?_⟩) (by assumption) ?_
  rotate_left
  · intro W hSW; go_simp; try with_reducible rfl
  try simp only [Act.put, List.setIfInBounds_toArray, List.set_cons_zero, List.set_cons_succ]
  refine wpAnyH_take (i := 6) (oi := ⟨_, _, _, _, _, _⟩) (v := ?_) rfl (by kernel_rfl) (by kernel_rfl) (by kernel_rfl) (fun _ _ _ h => h) (Or.inl ⟨by rfl, ?_⟩) (by assumption) ?_
  rotate_left
  · intro W hSW; go_simp; try with_reducible rfl
  try simp only [Act.put, List.setIfInBounds_toArray, List.set_cons_zero, List.set_cons_succ]
  refine wpAnyH_ready (rs := [7]) (by kernel_rfl) (by simp) ?_
  refine AllReadyH.cons (o := ⟨_, _, _, _, _, _⟩) rfl (fun K hK => ?_) AllReadyH.nil
  refine ite_yes rfl ?_
  refine wp_store_row 30 (.tmp 2) (.tmp 36) rfl N (lay 3 2 2 2).toArray rfl rfl 30 lc0.toArray hr8 Try.sizeLay rfl (lcs_all _ _ _ _ _ _ _ _ _ _ _ _ _ _) ?_
  have hg9 : wd.grownBy (wd.setRow N (lay 3 2 2 2).toArray) (some N) := ⟨rfl, rfl, rfl, by simp, fun k _ hk => setRow_other wd N k _ (fun e => hk (by rw [e]))⟩
  have hr9 : RowV (wd.setRow N (lay 3 2 2 2).toArray) N 30 (lay 3 2 2 2) := hr8.put _
  generalize wd.setRow N (lay 3 2 2 2).toArray = w9 at *
  refine hK.out _ _ (hS.keep hg9 (fun e => by injection e with e; omega)) (fun hHeld => ?_)
  clear hK K
  try simp only [Act.put, List.setIfInBounds_toArray, List.set_cons_zero, List.set_cons_succ]
  refine wpAnyH_take (i := 8) (oi := ⟨_, _, _, _, _, _⟩) (v := ?_) rfl (by kernel_rfl) (by kernel_rfl) (by kernel_rfl) (fun _ _ _ h => h) (Or.inl ⟨by rfl, ?_⟩) (by assumption) ?_
  rotate_left
  · intro W hSW; go_simp; try with_reducible rfl
  try simp only [Act.put, List.setIfInBounds_toArray, List.set_cons_zero, List.set_cons_succ]
  refine wpAnyH_done (by kernel_rfl) ?_ _
  have hJ9 : Jr w9 N L g gj q0 y0 (Dk.new 28) := ⟨HJ8.out.disk.but ((But.refl [N] wd.heap.size wd).grown hg9 (fun k e => by injection e with e; simp [e]) (Nat.le_refl _)) (fun k hk => ⟨(HJ8.out.disk.lt hk).2, by have := hlo k hk; simp; omega⟩), HJ8.out.row.keep hg9 (fun e => by injection e with e; omega), HJ8.out.apart, Nat.le_trans HJ8.out.size hg9.size⟩
  have HJ9 := Lib.hid hJ9
  have hB9 : Below N w w9 := below_grown hB8 hg9 (Nat.le_refl _) (by omega)
  clear hS hr8 HJ8 hB8 hg9 hJ9
  go_wp2_with fail
  exact bodyPost_ret (results_two_cell_tmp (fn := Try.f8) rfl _ _ N 30 _ (0, 0) _ _ rfl _ rfl rfl (.bool true) rfl hr9 Try.underlying30 rfl Try.sizeLay) rfl ⟨g, gj, L, rfl, by first | exact HJ9.out | (rw [hN]; exact HJ9.out), by first | exact hB9 | (rw [hN]; exact hB9)⟩
end Go.Proofs.Ytgkmbnmelepenaa
namespace Go.Proofs.Ytgkmbnmelepenaa
open Go.RowKit
set_option linter.unusedVariables false
set_option linter.unusedSimpArgs false

/-- The blocks of Ks are as they were. -/
def Kp (Ks : List Nat) (W W' : World) : Prop := ∃ M, But M W.heap.size W W' ∧ ∀ k ∈ Ks, k ∉ M
/-- The journal of the disk d lives in W; it holds no block of Ks; below N all is as in w0. -/
structure JL (w0 : World) (N g gj : Nat) (Ks : List Nat) (W : World) (d : Dk) : Prop where
  jr : ∃ L, Jr W N L g gj q0 y0 d ∧ ∀ k ∈ Ks, k ∉ L ∧ k < W.heap.size
  low : Below N w0 W
section
variable {w0 W W' : World} {N g gj : Nat} {Ks : List Nat} {d d' : Dk}
theorem Kp.size (h : Kp Ks W W') : W.heap.size ≤ W'.heap.size := by obtain ⟨M, h, _⟩ := h; exact h.size
theorem Kp.row {k : Nat} {t : TypeId} {cs : List Value} (h : Kp Ks W W') (hr : RowV W k t cs) (hk : k ∈ Ks) : RowV W' k t cs := by
  obtain ⟨M, h, hM⟩ := h
  exact rowV_but hr h hr.lt (hM k hk)
theorem Kp.lies {A : Option Addr} {cs : List Value} (h : Kp Ks W W') (hl : LiesV W W.heap.size A cs) (hk : ∀ a, A = some a → a.block ∈ Ks) : LiesV W' W'.heap.size A cs := by
  obtain ⟨M, h, hM⟩ := h
  intro hx
  obtain ⟨b, o, hA, hb, hc⟩ := hl hx
  refine ⟨b, o, hA, Nat.lt_of_lt_of_le hb h.size, fun i v hv => ?_⟩
  rw [← hc i v hv]
  exact World.cell?_of_block (h.block b hb (hM b (hk _ hA)))
theorem JL.size (h : JL w0 N g gj Ks W d) : N ≤ W.heap.size := by obtain ⟨L, h, _⟩ := h.jr; exact h.size
theorem JL.turn {L : List Nat} (hl : Below N w0 W) (hJ : Jr W N L g gj q0 y0 d) (hK : ∀ k ∈ Ks, k ∉ L ∧ k < W.heap.size) (ht : Turned W N L g d' W') : JL w0 N g gj Ks W' d' ∧ Kp Ks W W' := by
  obtain ⟨L', hJ', _, _⟩ := ht.jr hJ
  have hlow := ht.low2 hJ.size hJ.disk
  have hrow := ht.row hJ.row hJ.apart
  obtain ⟨L2, h1, h2, h3⟩ := ht
  refine ⟨⟨⟨L2, ⟨h1, hrow, fun hm => ?_, Nat.le_trans hJ.size h2.size⟩, fun k hk => ⟨fun hm => ?_, Nat.lt_of_lt_of_le (hK k hk).2 h2.size⟩⟩, hl.trans hlow⟩, L, h2, fun k hk => (hK k hk).1⟩
  · rcases h3 _ hm with h | h
    · exact hJ.apart h
    · have := hJ.row.lt; omega
  · rcases h3 _ hm with h | h
    · exact (hK k hk).1 h
    · have := (hK k hk).2; omega
theorem JL.below (h : JL w0 N g gj Ks W d) (hb : Below W.heap.size W W') : JL w0 N g gj Ks W' d := by
  obtain ⟨L, hJ, hK⟩ := h.jr
  exact ⟨⟨L, hJ.below hb, fun k hk => ⟨(hK k hk).1, Nat.lt_of_lt_of_le (hK k hk).2 hb.size⟩⟩, h.low.trans (hb.mono hJ.size)⟩
theorem Kp.of (hb : Below W.heap.size W W') : Kp Ks W W' := ⟨[], But.of [] hb, fun _ _ => by simp⟩
/-- New memory is kept, too. -/
theorem JL.add (h : JL w0 N g gj Ks W d) (hb : Below W.heap.size W W') {k : Nat} (h1 : W.heap.size ≤ k) (h2 : k < W'.heap.size) : JL w0 N g gj (k :: Ks) W' d := by
  obtain ⟨L, hJ, hK⟩ := h.jr
  refine ⟨⟨L, hJ.below hb, fun j hj => ?_⟩, h.low.trans (hb.mono hJ.size)⟩
  rcases List.mem_cons.1 hj with rfl | hj
  · exact ⟨fun hm => by have := (hJ.disk.lt hm).2; omega, h2⟩
  · exact ⟨(hK j hj).1, Nat.lt_of_lt_of_le (hK j hj).2 hb.size⟩
/-- A block that is kept is written. -/
theorem JL.put (h : JL w0 N g gj Ks W d) {k : Nat} (hk : k ∈ Ks) (hN : N ≤ k) (hj : k ≠ gj) (hg : W.grownBy W' (some k)) : JL w0 N g gj Ks W' d := by
  obtain ⟨L, hJ, hK⟩ := h.jr
  refine ⟨⟨L, ⟨hJ.disk.but ((But.refl [k] W.heap.size W).grown hg (fun j e => by injection e with e; simp [e]) (Nat.le_refl _)) (fun j hj' => ⟨(hJ.disk.lt hj').2, ?_⟩), hJ.row.keep hg (fun e => by injection e with e; exact hj e), hJ.apart, Nat.le_trans hJ.size hg.size⟩, fun j hj' => ⟨(hK j hj').1, Nat.lt_of_lt_of_le (hK j hj').2 hg.size⟩⟩, below_grown h.low hg hN hJ.size⟩
  simp only [List.mem_singleton]
  rintro rfl
  exact (hK _ hk).1 hj'

theorem jl_commit {M n c : Nat} {A : Option Addr} {l : List ChI} (h : JL w0 N g gj Ks W d) (hf : Fit y0.total d M) (hM : M + 40000 < 1000000) (hl : LiesV W W.heap.size A (chis l)) (hA : l ≠ [] → ∀ a, A = some a → a.block ∈ Ks) (hn : n = l.length) (hnc : n ≤ c) (h1000 : n ≤ 1000) :
    Calls Try.prog 18 #[.pointer (some ⟨gj, 0, none⟩), .slice A n c] W fun e W' => e = .returned (.int .i64 (commitV y0 l d).2) ∧ JL w0 N g gj Ks W' (commitV y0 l d).1 ∧ Kp Ks W W' := by
  obtain ⟨L, hJ, hK⟩ := h.jr
  refine (jcommit_any W N L g gj q0 y0 d l A n c _ M hJ y0_ok ⟨hl, fun hne a ha => (hK _ (hA hne a ha)).1⟩ hn hnc h1000 hf hM).mono ?_
  rintro e W' ⟨rfl, ht⟩
  exact ⟨rfl, JL.turn h.low hJ hK ht⟩
theorem jl_recover {M : Nat} (h : JL w0 N g gj Ks W d) (hd : d.down = false) (hf : Fit y0.total d M) (hM : M + 40000 < 1000000) :
    Calls Try.prog 25 #[.pointer (some ⟨gj, 0, none⟩)] W fun e W' => e = .returned (.tuple #[.int .i64 (recN y0 d), .int .i64 (recoverD y0 d).2]) ∧ JL w0 N g gj Ks W' (recoverD y0 d).1 ∧ Kp Ks W W' := by
  obtain ⟨L, hJ, hK⟩ := h.jr
  refine (jrecover_any W N L g gj q0 y0 d M hJ y0_ok hd hf hM).mono ?_
  rintro e W' ⟨rfl, ht⟩
  exact ⟨rfl, JL.turn h.low hJ hK ht⟩
theorem jl_scrub {M : Nat} (h : JL w0 N g gj Ks W d) (hf : Fit y0.total d M) (hM : M + 10000 < 1000000) :
    Calls Try.prog 31 #[.pointer (some ⟨gj, 0, none⟩)] W fun e W' => e = .returned (.int .i64 (scrubD y0 d).2) ∧ JL w0 N g gj Ks W' (scrubD y0 d).1 ∧ Kp Ks W W' := by
  obtain ⟨L, hJ, hK⟩ := h.jr
  refine (jscrub_any W N L g gj q0 y0 d _ M hJ y0_ok hf hM).mono ?_
  rintro e W' ⟨rfl, ht⟩
  exact ⟨rfl, JL.turn h.low hJ hK ht⟩
theorem jl_clean {M : Nat} (h : JL w0 N g gj Ks W d) (hd : d.down = false) (hf : Fit y0.total d M) :
    Calls Try.prog 29 #[.pointer (some ⟨gj, 0, none⟩)] W fun e W' => e = .returned (.bool (cleanD y0 d)) ∧ Below W.heap.size W W' := by
  obtain ⟨L, hJ, hK⟩ := h.jr
  exact jclean_any W N L g gj q0 y0 d M hJ y0_ok hd hf
theorem jl_check {B n c : Nat} {A : Option Addr} {l : List ChI} (h : JL w0 N g gj Ks W d) (hl : LiesV W B A (chis l)) (hB : B ≤ W.heap.size) (hn : n = l.length) (hnc : n ≤ c) (h1000 : n ≤ 1000) :
    Calls Try.prog 14 #[.pointer (some ⟨gj, 0, none⟩), .slice A n c] W fun e W' => e = .returned (.int .i64 (checkL y0 (l.map (·.1)))) ∧ Below W.heap.size W W' := by
  obtain ⟨L, hJ, hK⟩ := h.jr
  exact jcheck_any W g gj q0 y0 B A n c l hJ.row y0_ok hl hn hB h1000 hnc
theorem jl_cost {n : Nat} (h : JL w0 N g gj Ks W d) (h1000 : n ≤ 1000) : Calls Try.prog 26 #[.pointer (some ⟨gj, 0, none⟩), .int .i64 (n : Int)] W fun e W' => e = .returned (.int .i64 (2 * (n : Int) + 12 + 7)) ∧ W' = W := by
  obtain ⟨L, hJ, hK⟩ := h.jr
  exact jcost_any W g gj q0 y0 n hJ.row y0_ok h1000
theorem jl_steps (h : JL w0 N g gj Ks W d) : Calls Try.prog 27 #[.pointer (some ⟨g, 0, none⟩)] W fun e W' => e = .returned (.int .i64 (d.steps : Int)) ∧ W' = W := by
  obtain ⟨L, hJ, hK⟩ := h.jr
  obtain ⟨vd, vw, bm, hD, _⟩ := hJ.disk
  exact dsteps_any W N g bm vd vw d hD
theorem jl_waits (h : JL w0 N g gj Ks W d) : Calls Try.prog 30 #[.pointer (some ⟨g, 0, none⟩)] W fun e W' => e = .returned (.int .i64 (d.wait.length : Int)) ∧ W' = W := by
  obtain ⟨L, hJ, hK⟩ := h.jr
  obtain ⟨vd, vw, bm, hD, _⟩ := hJ.disk
  exact dwaits_any W N g bm vd vw d hD
theorem jl_read {M x : Nat} (h : JL w0 N g gj Ks W d) (hd : d.down = false) (hf : Fit y0.total d M) (hx : x < 28) :
    Calls Try.prog 28 #[.pointer (some ⟨g, 0, none⟩), .int .i64 (x : Int)] W fun e W' => e = .returned (.tuple #[.agg (Dk.look d.dur d.wait x).cs.toArray, .int .i64 0]) ∧ Below W.heap.size W W' := by
  obtain ⟨L, hJ, hK⟩ := h.jr
  obtain ⟨vd, vw, bm, hD, _⟩ := hJ.disk
  refine (dread_any W N g bm vd vw d (x : Int) hf.ok hD).mono ?_
  rintro e W' ⟨rfl, hb⟩
  rw [read_up hd (by rw [hf.len]; exact hx)]
  exact ⟨rfl, hb⟩
theorem jl_fuse (h : JL w0 N g gj Ks W d) (x : Int) : Calls Try.prog 21 #[.pointer (some ⟨g, 0, none⟩), .int .i64 x] W fun e W' => e = .returned (.tuple #[]) ∧ JL w0 N g gj Ks W' (d.setFuse x) ∧ Kp Ks W W' := by
  obtain ⟨L, hJ, hK⟩ := h.jr
  obtain ⟨vd, vw, bm, hD, hL⟩ := hJ.disk
  refine (dfuse_any W N g bm vd vw d x hD).mono ?_
  rintro e W' ⟨rfl, hD', hg⟩
  have hgL : g ∈ L := by rw [hL]; simp [foot]
  exact ⟨rfl, JL.turn h.low hJ hK ⟨L, ⟨vd, vw, bm, hD', hL⟩, (But.refl L W.heap.size W).grown hg (fun k e => by injection e with e; exact .inl (e ▸ hgL)) (Nat.le_refl _), fun k hk => .inl hk⟩⟩
theorem jl_crash {M : Nat} {keep : List Bool} {v : Value} (h : JL w0 N g gj Ks W d) (hf : Fit y0.total d M) (hv : ∀ L, (∀ k ∈ Ks, k ∉ L) → (∀ k ∈ L, N ≤ k) → Bools W L v keep) : Calls Try.prog 22 #[.pointer (some ⟨g, 0, none⟩), v] W fun e W' => e = .returned (.int .i64 (d.crash keep).2) ∧ JL w0 N g gj Ks W' (d.crash keep).1 ∧ Kp Ks W W' := by
  obtain ⟨L, hJ, hK⟩ := h.jr
  refine (dcrash_any W N g L d keep v hf.ok hJ.disk (hv L (fun k hk => (hK k hk).1) (fun k hk => (hJ.disk.lt hk).1))).mono ?_
  rintro e W' ⟨rfl, ht⟩
  exact ⟨rfl, JL.turn h.low hJ hK ht⟩
theorem jl_image {M : Nat} (h : JL w0 N g gj Ks W d) (hf : Fit y0.total d M) : Calls Try.prog 19 #[.pointer (some ⟨g, 0, none⟩)] W fun e W' => ∃ v', e = .returned v' ∧ W'.ownsRow W.heap.size 23 256 v' d.dur.length (secs d.dur) ∧ Below W.heap.size W W' := by
  obtain ⟨L, hJ, hK⟩ := h.jr
  obtain ⟨vd, vw, bm, hD, _⟩ := hJ.disk
  exact dimage_any W N g bm vd vw d hf.ok hD
end
theorem jl_begin (w : World) : Calls Try.prog 8 #[] w fun e w' => ∃ g gj, e = .returned (.tuple #[.pointer (some ⟨g, 0, none⟩), .pointer (some ⟨gj, 0, none⟩), .agg (lay 3 2 2 2).toArray, .bool true]) ∧ JL w w.heap.size g gj [] w' (Dk.new 28) ∧ gj < w'.heap.size := by
  refine (jbegin_any w).mono ?_
  rintro e w' ⟨g, gj, L, rfl, hJ, hb⟩
  exact ⟨g, gj, rfl, ⟨⟨L, hJ, by simp⟩, hb⟩, hJ.row.lt⟩
end Go.Proofs.Ytgkmbnmelepenaa
namespace Go.Proofs.Ytgkmbnmelepenaa
open Go.RowKit
set_option linter.unusedVariables false
set_option linter.unusedSimpArgs false

def X0 : List Sec := List.replicate y0.total zeroSec
def c0L : List ChI := [(2, fillSec 7), (6, fillSec 9)]
def d1W : Dk := (commitD y0 c0L (Dk.new 28)).1
def d2W : Dk := (recoverD y0 d1W).1
theorem may0 : May y0 c0L := ⟨by decide⟩
theorem tidy0 : Tidy y0 X0 := tidy_new
theorem commit0 : (commitD y0 c0L (Dk.new 28)).2 = 0 ∧ Rest (· = done X0 c0L) d1W ∧ d1W.steps = 23 ∧ Fit y0.total d1W 23 := by
  obtain ⟨h1, h2⟩ := commit_yes y0_ok tidy0 may0 new_rest
  have hl : (Dk.new 28).dur.length = y0.total := by rw [new_rest.dur]; exact tidy0.len
  obtain ⟨_, h, _⟩ := commit_ticks y0_ok may0.len.2 (may0.range y0_ok) (Dk.new 28) rfl hl
  obtain ⟨_, _, h3, _⟩ := h (by intro k hk; cases hk)
  have h4 := commit_keeps y0 c0L y0.total (Dk.new 28) 0 new_fit (by decide)
  exact ⟨h1, h2, h3, h4⟩
theorem recover0 : (recoverD y0 d1W).2 = 0 ∧ recN y0 d1W = 0 ∧ Rest (· = done X0 c0L) d2W ∧ Fit y0.total d2W 200 := by
  have hR := commit0.2.1
  have ht := tidy_done y0_ok tidy0 may0
  have hq : Rest (Quiet y0 (done X0 c0L)) d1W := ⟨hR.up, hR.fuse, hR.wait, by rw [hR.dur]; exact ht.quiet⟩
  obtain ⟨h1, h2⟩ := quiet_last y0_ok ht hq
  have hp := pend_tidy ht hR
  have h3 := complete_keeps y0 (pendL y0 d1W) y0.total d1W 23 commit0.2.2.2 (by rw [hp]; decide)
  refine ⟨h1, ?_, h2, Fit.mono h3 (by rw [hp]; decide)⟩
  rw [recN, if_pos h1, hp]
  rfl
theorem look0 : Dk.look d2W.dur d2W.wait 6 = fillSec 9 := by
  have hR := recover0.2.2.1
  rw [hR.wait, hR.dur]
  show (done X0 c0L).getD 6 zeroSec = _
  have : done X0 c0L = ((X0.set 2 (fillSec 7)).set 6 (fillSec 9)) := rfl
  rw [this, getD_same (by simp [X0, y0])]
theorem clean0 : cleanD y0 d2W = true := clean_tidy (tidy_done y0_ok tidy0 may0) recover0.2.2.1
theorem scrub0 : (scrubD y0 d2W).2 = 0 := by
  have hR := recover0.2.2.1
  have hl : d2W.dur.length = y0.total := by rw [hR.dur]; exact (tidy_done y0_ok tidy0 may0).len
  obtain ⟨_, h, _⟩ := scrub_ticks y0_ok d2W hR.up hl
  exact (h (by rw [hR.fuse]; intro k hk; cases hk)).1
theorem commitV0 : commitV y0 c0L (Dk.new 28) = (d1W, 0) := by
  rw [commitV_yes may0.ok]
  have h := commit0.1
  unfold d1W
  generalize commitD y0 c0L (Dk.new 28) = x at *
  obtain ⟨a, b⟩ := x
  simp only at h
  subst h
  rfl
theorem commitV1 (d : Dk) : commitV y0 [(0, zeroSec)] d = (d, 2) := by
  have h : checkL y0 (([(0, zeroSec)] : List ChI).map (·.1)) = 2 := by
    show checkL y0 [0] = 2
    decide
  rw [commitV_no (by rw [h]; decide), h]
theorem check_nil : checkL y0 (([] : List ChI).map (·.1)) = 1 := by decide
theorem targets0 : targetsS (headS (c0L.map (·.1))) = some [2, 6] := targets_head (by decide) (by decide) (by decide)
end Go.Proofs.Ytgkmbnmelepenaa
