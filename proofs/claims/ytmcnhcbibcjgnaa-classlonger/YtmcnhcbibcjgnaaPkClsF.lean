/-
  Layer 15: the contracts of slices.Clone at classes, All, maps.Clone, Copy.
-/
import Derived.Test.YtmcnhcbibcjgnaaPkClsH
import Derived.Test.YtmcnhcbibcjgnaaPkRegS
import Derived.Deep.RegionHeld3
import Derived.BigQuiet
import Derived.StillTailTactics
import GoSem.Extern.MapsClone
import Derived.Laws.Externs
import Derived.MapKept
namespace Go.Proofs.Ytmcnhcbibcjgnaa
open Go.RowKit Go.Maps
set_option linter.unusedVariables false
set_option linter.unusedSimpArgs false

set_option maxRecDepth 100000 in
set_option maxHeartbeats 1000000 in
theorem clone_cls (w : World) (base : Nat) (vs : Value) (n : Nat) (l : List Cl) (h : w.ownsRow base 34 4 vs n (clsV l)) (hn : n ≤ 8) :
    Calls Try.prog 27 #[vs] w fun e w' => ∃ v', e = .returned v' ∧ w'.ownsRow w.heap.size 34 4 v' n (clsV l) ∧ Below w.heap.size w w' := by
  have h0 := h
  rcases h.2 with ⟨rfl, h00⟩ | ⟨g, cap, cur, rfl, _⟩
  · have hx : l = [] := by
      have := h.1
      rw [clsV_length] at this
      exact List.eq_nil_of_length_eq_zero (by omega)
    have hq := fun W => eql_slice_nil (P := Try.prog) W none 0 0 Try.underlying26
    clear h h0
    subst hx
    subst h00
    go_enter Try.func27, Try.ntmps27
    go_wp2_with fail
    go_ret
    exact ⟨_, rfl, World.ownsRow_nil _ _ _ _, Below.refl _ _⟩
  · have hown : (w.alloc (.cells #[] 34)).ownsRow w.heap.size 34 4 (.slice (some ⟨w.heap.size, 0, none⟩) 0 0) 0 (clsV []) := World.ownsRow_lit w #[] 0 (Nat.le_refl _) (by unfold maxLen; omega) rfl
    have h1 := h.alloc (.cells #[] 34)
    have hb1 : Below w.heap.size w (w.alloc (.cells #[] 34)) := (Below.refl _ _).alloc (Nat.le_refl _) _
    have hs1 := hb1.size
    have hq := fun W => eql_slice_nil (P := Try.prog) W (some ⟨g, 0, none⟩) n cap Try.underlying26
    clear h h0
    go_enter Try.func27, Try.ntmps27
    go_wp2_with (at_builtin; refine wpList_append_rows rfl _ _ 26 rfl w.heap.size 34 Try.underlying26 Try.infoC15 rfl (by decide) _ 0 [] rfl hown _ base n (clsV l) rfl h1 (clsV_one _) (by unfold maxLen; omega) (by omega) hs1 ?_)
    intro v' w2 hown2 hg2 _
    go_wp2_with fail
    go_ret
    exact ⟨v', rfl, hown2, hb1.grown hg2 hs1 (own_ge hown)⟩

set_option maxRecDepth 100000 in
set_option maxHeartbeats 1000000 in
theorem call_any (w : World) (base g : Nat) (L : List Nat) (l : List Cl) (h : Cls w base L g l) :
    Calls Try.prog 15 #[.pointer (some ⟨g, 0, none⟩)] w fun e w' => ∃ A c, e = .returned (.slice A l.length c) ∧ LiesV w' w'.heap.size A (clsV l) ∧ Fresh w.heap.size A ∧ Below w.heap.size w w' := by
  obtain ⟨vs, mp, h, _⟩ := h
  have c0 := h.c0
  have Hh := Lib.hid h
  clear h
  go_enter Try.func15, Try.ntmps15
  go_wp2_with fail
  refine (clone_cls w base vs l.length l Hh.out.own Hh.out.ok.len).mono ?_
  rintro e w1 ⟨v', rfl, hr1, hb1⟩
  obtain ⟨A, c, rfl, _, _, _, hl, hf⟩ := lies_ownC hr1
  have Hl := Lib.hid hl
  have Hf := Lib.hid hf
  clear hl hf hr1
  go_wp2_with fail
  go_ret
  exact ⟨A, c, rfl, Hl.out, Hf.out, hb1⟩

theorem run_typeAssert_map15 {P : Program} {w : World} (t xT k e : TypeId) (v : Value) (h : P.underlying t = some (.map k e)) : (Instr.typeAssert (.iface t v) xT t false).run P w = .ok v w := by
  simp [Instr.typeAssert, run_underlying h, go_sem, Result.andThen]
/-- The model's entry for maps.clone: a new block with the old entries. -/
theorem run_maps_clone15 {P : Program} {w : World} {r : Nat} {es : Array MapEntry} {clock : Nat} (t : TypeId) (hb : w.heap[r]? = some (.map es clock)) :
    (Extern.MapsClone.clone #[.iface t (.map (some r))]).run P w = .ok (.iface t (.map (some w.heap.size))) (w.alloc (.map es clock)) := by
  have e : Extern.MapsClone.clone #[.iface t (.map (some r))] = (getObj r >>= fun o => match o with
      | .map entries clock => (newObj (.map entries clock) >>= fun n => pure (.iface t (.map (some n))))
      | _ => stuck "maps.clone: a map expected") := rfl
  rw [e]
  simp [Go.MapKept.run_getObj_map hb, Result.andThen, go_sem]

set_option maxRecDepth 100000 in
set_option maxHeartbeats 1000000 in
theorem mclone_none (w : World) : Calls Try.prog 28 #[.map none] w fun e w' => e = .returned (.map none) ∧ w' = w := by
  have hq := fun W => eql_map_nil (P := Try.prog) W none Try.underlying58
  go_enter Try.func28, Try.ntmps28
  go_wp2_with fail
  go_ret
  exact ⟨rfl, rfl⟩
set_option maxRecDepth 100000 in
set_option maxHeartbeats 1000000 in
theorem mclone_some (w : World) (b n : Nat) (D : DataW Unit) (h : w.ownsMap Try.prog 9 (plainElem (H := Unit) Try.prog 3) b n D) :
    Calls Try.prog 28 #[.map (some b)] w fun e w' => e = .returned (.map (some w.heap.size)) ∧ w'.ownsMap Try.prog 9 (plainElem (H := Unit) Try.prog 3) w.heap.size n D ∧ Below w.heap.size w w' := by
  obtain ⟨es, clock, hb, F, hs, hD⟩ := h
  have HF := Lib.hid F
  have hq := fun W => eql_map_nil (P := Try.prog) W (some b) Try.underlying58
  clear F
  go_enter Try.func28, Try.ntmps28
  go_wp2_with fail
  rw [run_callFunc_extern Try.func43 (by kernel_rfl) (by kernel_rfl) (by kernel_rfl) (e := Extern.MapsClone.clone) (by kernel_rfl), run_maps_clone15 58 hb]
  simp only [Result.andThen]
  rw [Oper.upon_value]
  go_wp2_with fail
  rw [run_typeAssert_map15 _ _ _ _ _ Try.underlying58]
  simp only [Result.andThen]
  rw [Oper.upon_value]
  go_wp2_with fail
  go_ret
  exact ⟨rfl, ⟨es, clock, (Go.MapKept.heap_alloc w _).1, HF.out, hs, hD⟩, (Below.refl _ w).alloc (Nat.le_refl _) _⟩

theorem Try.builtS15 (A : Option Addr) (n c : Nat) (m : Option Nat) : Try.prog.built 60 [(0, .slice A n c), (1, .map m)] = some #[.slice A n c, .map m] := by kernel_rfl

set_option maxRecDepth 100000 in
set_option maxHeartbeats 2000000 in
theorem ccopy_any (w : World) (base g : Nat) (L : List Nat) (l : List Cl) (h : Cls w base L g l) :
    Calls Try.prog 9 #[.pointer (some ⟨g, 0, none⟩)] w fun e w' => ∃ g' L', e = .returned (.pointer (some ⟨g', 0, none⟩)) ∧ Cls w' w.heap.size L' g' l ∧ Below w.heap.size w w' := by
  obtain ⟨vs, mp, h, _⟩ := h
  have HC := Lib.hid h
  clear h
  go_enter Try.func9, Try.ntmps9
  go_wp2_with fail
  have hC : SetAt w.drew base g vs mp l := HC.out.drew
  have hwd : Below w.heap.size w w.drew := (Below.refl _ _).drew
  have hsz : w.drew.heap.size = w.heap.size := rfl
  refine wp_region_held_drew (S := fun W => Below w.drew.heap.size w.drew W) (by kernel_rfl) (Below.refl _ _) (fun hHeld => ?_)
  generalize w.drew = wd at *
  have hSc : Below wd.heap.size wd wd := Below.refl _ _
  cases mp with
  | none =>
    refine wpAnyH_take (i := 0) (oi := ⟨_, _, _, _, _, _⟩) (v := ?_) rfl (by kernel_rfl) (by kernel_rfl) (by kernel_rfl) (fun _ _ _ h => h) (Or.inl ⟨by rfl, ?_⟩) (by assumption) ?_
    rotate_left
    · intro W hSW; go_simp; try with_reducible rfl
    try simp only [Act.put, List.setIfInBounds_toArray, List.set_cons_zero, List.set_cons_succ]
    refine wpAnyH_take (i := 1) (oi := ⟨_, _, _, _, _, _⟩) (v := ?_) rfl (by kernel_rfl) (by kernel_rfl) (by kernel_rfl) (fun _ _ _ h => h) (Or.inl ⟨by rfl, ?_⟩) (by assumption) ?_
    rotate_left
    · intro W hSW; go_simp; try with_reducible rfl
    try simp only [Act.put, List.setIfInBounds_toArray, List.set_cons_zero, List.set_cons_succ]
    refine wpAnyH_take (i := 2) (oi := ⟨_, _, _, _, _, _⟩) (v := ?_) rfl (by kernel_rfl) (by kernel_rfl) (by kernel_rfl) (fun _ _ _ h => h) (Or.inl ⟨by rfl, ?_⟩) (by assumption) ?_
    rotate_left
    · intro W hSW; go_simp; try with_reducible rfl
    try simp only [Act.put, List.setIfInBounds_toArray, List.set_cons_zero, List.set_cons_succ]
    refine wpAnyH_take (i := 3) (oi := ⟨_, _, _, _, _, _⟩) (v := ?_) rfl (by kernel_rfl) (by kernel_rfl) (by kernel_rfl) (fun _ _ _ h => h) (Or.inl ⟨by rfl, ?_⟩) (by assumption) ?_
    rotate_left
    · intro W hSW; have hcq := (hC.below hSW).c0; go_simp; try with_reducible rfl
    try simp only [Act.put, List.setIfInBounds_toArray, List.set_cons_zero, List.set_cons_succ]
    refine wpAnyH_take (i := 5) (oi := ⟨_, _, _, _, _, _⟩) (v := ?_) rfl (by kernel_rfl) (by kernel_rfl) (by kernel_rfl) (fun _ _ _ h => h) (Or.inl ⟨by rfl, ?_⟩) (by assumption) ?_
    rotate_left
    · intro W hSW; go_simp; try with_reducible rfl
    try simp only [Act.put, List.setIfInBounds_toArray, List.set_cons_zero, List.set_cons_succ]
    refine wpAnyH_take (i := 6) (oi := ⟨_, _, _, _, _, _⟩) (v := ?_) rfl (by kernel_rfl) (by kernel_rfl) (by kernel_rfl) (fun _ _ _ h => h) (Or.inl ⟨by rfl, ?_⟩) (by assumption) ?_
    rotate_left
    · intro W hSW; go_simp; try with_reducible rfl
    try simp only [Act.put, List.setIfInBounds_toArray, List.set_cons_zero, List.set_cons_succ]
    refine wpAnyH_take (i := 7) (oi := ⟨_, _, _, _, _, _⟩) (v := ?_) rfl (by kernel_rfl) (by kernel_rfl) (by kernel_rfl) (fun _ _ _ h => h) (Or.inl ⟨by rfl, ?_⟩) (by assumption) ?_
    rotate_left
    · intro W hSW; go_simp; try with_reducible rfl
    try simp only [Act.put, List.setIfInBounds_toArray, List.set_cons_zero, List.set_cons_succ]
    refine wpAnyH_take (i := 8) (oi := ⟨_, _, _, _, _, _⟩) (v := ?_) rfl (by kernel_rfl) (by kernel_rfl) (by kernel_rfl) (fun _ _ _ h => h) (Or.inl ⟨by rfl, ?_⟩) (by assumption) ?_
    rotate_left
    · intro W hSW; have hcq := (hC.below hSW).c1; go_simp; try with_reducible rfl
    try simp only [Act.put, List.setIfInBounds_toArray, List.set_cons_zero, List.set_cons_succ]
    refine wpAnyH_ready (rs := [4]) (by kernel_rfl) (by simp) ?_
    refine AllReadyH.cons (o := ⟨_, _, _, _, _, _⟩) rfl (fun K hK => ?_) AllReadyH.nil
    go_simp
    refine (clone_cls wd base vs l.length l hC.own hC.ok.len).mono ?_
    rintro e x1 ⟨v1, rfl, hr1, hb⟩
    try simp only []
    have ho1 := hb.size
    have hSx1 := hSc.trans (hb.mono hSc.size)
    refine hK.out _ _ hSx1 (fun hHeld => ?_)
    clear hK K hb hSc
    have hSc := hSx1
    clear hSx1
    try simp only [Act.put, List.setIfInBounds_toArray, List.set_cons_zero, List.set_cons_succ]
    refine wpAnyH_ready (rs := [9]) (by kernel_rfl) (by simp) ?_
    refine AllReadyH.cons (o := ⟨_, _, _, _, _, _⟩) rfl (fun K hK => ?_) AllReadyH.nil
    go_simp
    refine (mclone_none x1).mono ?_
    rintro e ws9 ⟨rfl, rfl⟩
    try simp only []
    refine hK.out _ _ hSc (fun hHeld => ?_)
    clear hK K
    try simp only [Act.put, List.setIfInBounds_toArray, List.set_cons_zero, List.set_cons_succ]
    obtain ⟨A1, c1, rfl, _, _⟩ := own_slice hr1
    refine wpAnyH_take (i := 10) (oi := ⟨_, _, _, _, _, _⟩) (v := ?_) rfl (by kernel_rfl) (by kernel_rfl) (by kernel_rfl) (fun _ _ _ h => h) (Or.inl ⟨by rfl, ?_⟩) (by assumption) ?_
    rotate_left
    · intro W hSW; refine exec_built 60 #[(0, .tmp 7), (1, .tmp 12)] ?_ [.slice A1 l.length c1, .map none] ?_; exact rfl; exact Try.builtS15 _ _ _ _
    try simp only [Act.put, List.setIfInBounds_toArray, List.set_cons_zero, List.set_cons_succ]
    refine wpAnyH_ready (rs := [11]) (by kernel_rfl) (by simp) ?_
    refine AllReadyH.cons (o := ⟨_, _, _, _, _, _⟩) rfl (fun K hK => ?_) AllReadyH.nil
    refine step_of_list rfl (fun Q2 hQ2 => ?_)
    refine wpList_box_rowV rfl 60 _ rfl [.slice A1 l.length c1, .map none] rfl ?_
    intro x3 hr3 hb3 hs3
    refine wpList_nil (hQ2 _ _ ?_)
    have hS3 := hSc.trans (hb3.mono hSc.size)
    refine hK.out _ _ hS3 (fun hHeld => ?_)
    try clear hQ2
    clear hK K
    try simp only [Act.put, List.setIfInBounds_toArray, List.set_cons_zero, List.set_cons_succ]
    refine wpAnyH_take (i := 12) (oi := ⟨_, _, _, _, _, _⟩) (v := ?_) rfl (by kernel_rfl) (by kernel_rfl) (by kernel_rfl) (fun _ _ _ h => h) (Or.inl ⟨by rfl, ?_⟩) (by assumption) ?_
    rotate_left
    · intro W hSW; go_simp; try with_reducible rfl
    try simp only [Act.put, List.setIfInBounds_toArray, List.set_cons_zero, List.set_cons_succ]
    refine wpAnyH_done (by kernel_rfl) ?_ _
    have hr3o := own_below hr1 hb3
    have Hf : Hid (∃ L', Cls x3 wd.heap.size L' _ l) := ⟨_, _, _, ⟨hr3, hr3o, (fun b2 e => by cases e), (fun _ => hC.nomap rfl), (by omega), hC.ok⟩, rfl⟩
    clear hr3 hr3o hb3 hHeld
    go_wp2_with fail
    go_ret
    obtain ⟨L', hL'⟩ := Hf.out
    exact ⟨_, L', rfl, by rw [← hsz]; exact hL', hwd.trans (by rw [← hsz]; exact hS3)⟩
  | some b =>
    refine wpAnyH_take (i := 0) (oi := ⟨_, _, _, _, _, _⟩) (v := ?_) rfl (by kernel_rfl) (by kernel_rfl) (by kernel_rfl) (fun _ _ _ h => h) (Or.inl ⟨by rfl, ?_⟩) (by assumption) ?_
    rotate_left
    · intro W hSW; go_simp; try with_reducible rfl
    try simp only [Act.put, List.setIfInBounds_toArray, List.set_cons_zero, List.set_cons_succ]
    refine wpAnyH_take (i := 1) (oi := ⟨_, _, _, _, _, _⟩) (v := ?_) rfl (by kernel_rfl) (by kernel_rfl) (by kernel_rfl) (fun _ _ _ h => h) (Or.inl ⟨by rfl, ?_⟩) (by assumption) ?_
    rotate_left
    · intro W hSW; go_simp; try with_reducible rfl
    try simp only [Act.put, List.setIfInBounds_toArray, List.set_cons_zero, List.set_cons_succ]
    refine wpAnyH_take (i := 2) (oi := ⟨_, _, _, _, _, _⟩) (v := ?_) rfl (by kernel_rfl) (by kernel_rfl) (by kernel_rfl) (fun _ _ _ h => h) (Or.inl ⟨by rfl, ?_⟩) (by assumption) ?_
    rotate_left
    · intro W hSW; go_simp; try with_reducible rfl
    try simp only [Act.put, List.setIfInBounds_toArray, List.set_cons_zero, List.set_cons_succ]
    refine wpAnyH_take (i := 3) (oi := ⟨_, _, _, _, _, _⟩) (v := ?_) rfl (by kernel_rfl) (by kernel_rfl) (by kernel_rfl) (fun _ _ _ h => h) (Or.inl ⟨by rfl, ?_⟩) (by assumption) ?_
    rotate_left
    · intro W hSW; have hcq := (hC.below hSW).c0; go_simp; try with_reducible rfl
    try simp only [Act.put, List.setIfInBounds_toArray, List.set_cons_zero, List.set_cons_succ]
    refine wpAnyH_take (i := 5) (oi := ⟨_, _, _, _, _, _⟩) (v := ?_) rfl (by kernel_rfl) (by kernel_rfl) (by kernel_rfl) (fun _ _ _ h => h) (Or.inl ⟨by rfl, ?_⟩) (by assumption) ?_
    rotate_left
    · intro W hSW; go_simp; try with_reducible rfl
    try simp only [Act.put, List.setIfInBounds_toArray, List.set_cons_zero, List.set_cons_succ]
    refine wpAnyH_take (i := 6) (oi := ⟨_, _, _, _, _, _⟩) (v := ?_) rfl (by kernel_rfl) (by kernel_rfl) (by kernel_rfl) (fun _ _ _ h => h) (Or.inl ⟨by rfl, ?_⟩) (by assumption) ?_
    rotate_left
    · intro W hSW; go_simp; try with_reducible rfl
    try simp only [Act.put, List.setIfInBounds_toArray, List.set_cons_zero, List.set_cons_succ]
    refine wpAnyH_take (i := 7) (oi := ⟨_, _, _, _, _, _⟩) (v := ?_) rfl (by kernel_rfl) (by kernel_rfl) (by kernel_rfl) (fun _ _ _ h => h) (Or.inl ⟨by rfl, ?_⟩) (by assumption) ?_
    rotate_left
    · intro W hSW; go_simp; try with_reducible rfl
    try simp only [Act.put, List.setIfInBounds_toArray, List.set_cons_zero, List.set_cons_succ]
    refine wpAnyH_take (i := 8) (oi := ⟨_, _, _, _, _, _⟩) (v := ?_) rfl (by kernel_rfl) (by kernel_rfl) (by kernel_rfl) (fun _ _ _ h => h) (Or.inl ⟨by rfl, ?_⟩) (by assumption) ?_
    rotate_left
    · intro W hSW; have hcq := (hC.below hSW).c1; go_simp; try with_reducible rfl
    try simp only [Act.put, List.setIfInBounds_toArray, List.set_cons_zero, List.set_cons_succ]
    refine wpAnyH_ready (rs := [4]) (by kernel_rfl) (by simp) ?_
    refine AllReadyH.cons (o := ⟨_, _, _, _, _, _⟩) rfl (fun K hK => ?_) AllReadyH.nil
    go_simp
    refine (clone_cls wd base vs l.length l hC.own hC.ok.len).mono ?_
    rintro e x1 ⟨v1, rfl, hr1, hb⟩
    try simp only []
    have ho1 := hb.size
    have hSx1 := hSc.trans (hb.mono hSc.size)
    refine hK.out _ _ hSx1 (fun hHeld => ?_)
    clear hK K hb hSc
    have hSc := hSx1
    clear hSx1
    try simp only [Act.put, List.setIfInBounds_toArray, List.set_cons_zero, List.set_cons_succ]
    refine wpAnyH_ready (rs := [9]) (by kernel_rfl) (by simp) ?_
    refine AllReadyH.cons (o := ⟨_, _, _, _, _, _⟩) rfl (fun K hK => ?_) AllReadyH.nil
    go_simp
    refine (mclone_some x1 b _ _ ((hC.below hSc).map b rfl).2).mono ?_
    rintro e x2 ⟨rfl, hm2, hb⟩
    try simp only []
    have hr2 := own_below hr1 hb
    obtain ⟨A1, c1, rfl, _, _⟩ := own_slice hr2
    clear hr1
    have hSx2 := hSc.trans (hb.mono hSc.size)
    refine hK.out _ _ hSx2 (fun hHeld => ?_)
    clear hK K hb hSc
    have hSc := hSx2
    clear hSx2
    try simp only [Act.put, List.setIfInBounds_toArray, List.set_cons_zero, List.set_cons_succ]
    refine wpAnyH_take (i := 10) (oi := ⟨_, _, _, _, _, _⟩) (v := ?_) rfl (by kernel_rfl) (by kernel_rfl) (by kernel_rfl) (fun _ _ _ h => h) (Or.inl ⟨by rfl, ?_⟩) (by assumption) ?_
    rotate_left
    · intro W hSW; refine exec_built 60 #[(0, .tmp 7), (1, .tmp 12)] ?_ [.slice A1 l.length c1, .map (some x1.heap.size)] ?_; exact rfl; exact Try.builtS15 _ _ _ _
    try simp only [Act.put, List.setIfInBounds_toArray, List.set_cons_zero, List.set_cons_succ]
    refine wpAnyH_ready (rs := [11]) (by kernel_rfl) (by simp) ?_
    refine AllReadyH.cons (o := ⟨_, _, _, _, _, _⟩) rfl (fun K hK => ?_) AllReadyH.nil
    refine step_of_list rfl (fun Q2 hQ2 => ?_)
    refine wpList_box_rowV rfl 60 _ rfl [.slice A1 l.length c1, .map (some x1.heap.size)] rfl ?_
    intro x3 hr3 hb3 hs3
    refine wpList_nil (hQ2 _ _ ?_)
    have hS3 := hSc.trans (hb3.mono hSc.size)
    refine hK.out _ _ hS3 (fun hHeld => ?_)
    try clear hQ2
    clear hK K
    try simp only [Act.put, List.setIfInBounds_toArray, List.set_cons_zero, List.set_cons_succ]
    refine wpAnyH_take (i := 12) (oi := ⟨_, _, _, _, _, _⟩) (v := ?_) rfl (by kernel_rfl) (by kernel_rfl) (by kernel_rfl) (fun _ _ _ h => h) (Or.inl ⟨by rfl, ?_⟩) (by assumption) ?_
    rotate_left
    · intro W hSW; go_simp; try with_reducible rfl
    try simp only [Act.put, List.setIfInBounds_toArray, List.set_cons_zero, List.set_cons_succ]
    refine wpAnyH_done (by kernel_rfl) ?_ _
    have hr3o := own_below hr2 hb3
    have hm3 := map_but hm2 (But.of [] hb3) hm2.lt (by simp)
    have hs2 : x1.heap.size + 1 ≤ x2.heap.size := hm2.lt
    have Hf : Hid (∃ L', Cls x3 wd.heap.size L' _ l) := ⟨_, _, _, ⟨hr3, hr3o, (fun b2 e => by injection e with e; subst e; exact ⟨by omega, hm3⟩), (fun e => by cases e), (by omega), hC.ok⟩, rfl⟩
    clear hr3 hr3o hb3 hHeld
    go_wp2_with fail
    go_ret
    obtain ⟨L', hL'⟩ := Hf.out
    exact ⟨_, L', rfl, by rw [← hsz]; exact hL', hwd.trans (by rw [← hsz]; exact hS3)⟩
end Go.Proofs.Ytmcnhcbibcjgnaa
