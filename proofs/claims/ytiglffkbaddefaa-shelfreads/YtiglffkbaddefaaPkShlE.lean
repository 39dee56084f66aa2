/-
  Layer 12: the contract of Put.
  Layer 12: the contract of Put at a table that fills no whole sectors; of Changes.
-/
import Derived.Test.YtiglffkbaddefaaPkShlC
import Derived.Test.YtiglffkbaddefaaPkRangeB
import Derived.Test.YtiglffkbaddefaaPkBuildS
import Derived.Test.YtiglffkbaddefaaPkTabK
namespace Go.Proofs.Ytiglffkbaddefaa
open Go.RowKit Go.Shelf
set_option linter.unusedVariables false
set_option linter.unusedSimpArgs false
attribute [local go_sem] Oper.semAt_some

/-- The i-th six places as a sector; places as sectors. -/
def sixAt (l : List Ent) (i : Nat) : Sec := sixS ((l.drop (i * 6)).take 6)
def shelfL (l : List Ent) (m : Nat) : List Sec := (List.range m).map (sixAt l)
theorem shelfL_length (l : List Ent) (m : Nat) : (shelfL l m).length = m := by simp [shelfL]
theorem Try.infoS : (Try.prog.info? 43).map (fun i => (i.zero, i.size, i.bytes)) = some (some (.agg zeroSec.cs.toArray), 256, 256) := by kernel_rfl
theorem below_keepsFrom {B : Nat} {W W' : World} (h : Below W.heap.size W W') : KeepsFrom B W W' := KeepsFrom.of_grownBy (grown_of_below h none) (by simp)
theorem below_keepsL {L : List Nat} {W W' : World} {B : Nat} (h : Below B W W') (hL : ∀ k ∈ L, k < B) : KeepsL L W W' := fun k hk => h.block k (hL k hk)
def valsC {n : Nat} (l : List (Fin n)) : List Nat := l.map (·.1)
theorem valsC_snoc {n : Nat} (l : List (Fin n)) (x : Fin n) : valsC (l ++ [x]) = valsC l ++ [x.1] := by simp [valsC]
/-- Between two rounds of Put's loop, the parts of xs having come. -/
structure ShPut (N a b g c m M : Nat) (l : List Ent) (w : World) (xs : List Nat) (W : World) : Prop where
  box : ∃ v, One W N v 35 ∧ W.ownsRow (N + 1) 43 256 v xs.length (secs (xs.map (sixAt l)))
  row : W.ownsRow (N + 1) 32 34 (.slice (some ⟨g, 0, none⟩) (m * 6) c) (m * 6) (ents l)
  cut : CutAt W a b g c m
  below : Below N w W
  size : M ≤ W.heap.size
theorem CutAt.stays {B : Nat} {W W' : World} {a b g c m : Nat} (h : CutAt W a b g c m) (hs : Stays10 B W W') : CutAt W' a b g c m := ⟨hs.one h.sl, hs.one h.sz, h.le, h.cap⟩
theorem ShPut.stays {N a b g c m M B : Nat} {l : List Ent} {w : World} {xs : List Nat} {W W' : World} (h : ShPut N a b g c m M l w xs W) (hN : N ≤ B) (hw : N ≤ w.heap.size) (hs : Stays10 B W W') : ShPut N a b g c m M l w xs W' := by
  obtain ⟨v, h1, h2⟩ := h.box
  exact ⟨⟨v, hs.one h1, hs.own h2⟩, hs.own h.row, h.cut.stays hs, hs.bel hN hw h.below, Nat.le_trans h.size hs.size⟩

theorem own_cells {w : World} {base : Nat} {e : TypeId} {size : Nat} {v : Value} {n : Nat} {xs : List Value} (h : w.ownsRow base e size v n xs) : ∀ (j : Nat) (o : Obj), v.ownBlock = some j → w.heap[j]? = some o → o.isCells = true := by
  intro j o hj ho
  rcases h.2 with ⟨rfl, _⟩ | ⟨g, cap, cur, rfl, _, hg, _⟩
  · simp [Value.ownBlock] at hj
  · have e1 : g = j := Option.some.inj hj
    subst e1
    rw [hg] at ho
    cases ho
    rfl
/-- A round: the part k has come. -/
theorem shput_round {N a b g c m M k : Nat} {l : List Ent} {w wd w4 w5 w6 : World} {xs : List Nat} {v v6 : Value} (hP : ShPut N a b g c m M l w xs wd) (hbd : One wd N v 35) (hod : wd.ownsRow (N + 1) 43 256 v xs.length (secs (xs.map (sixAt l))))
    (hNw : N ≤ w.heap.size) (hlt : ∀ j ∈ [a, b], N + 1 ≤ j) (hb4 : Below wd.heap.size wd w4) (hb5 : Below w4.heap.size w4 w5) (hg6 : w5.grownBy w6 v.ownBlock) (ho6 : w6.ownsRow (N + 1) 43 256 v6 (xs.length + 1) (secs (xs.map (sixAt l)) ++ (sixS ((l.drop (k * 6)).take 6)).cs)) :
    One w6 N v 35 ∧ (∀ B, KeepsFrom B wd (w6.setCell ⟨N, 0, none⟩ v6)) ∧ KeepsL [a, b] wd (w6.setCell ⟨N, 0, none⟩ v6) ∧ ShPut N a b g c m M l w (xs ++ [k]) (w6.setCell ⟨N, 0, none⟩ v6) := by
  have hb45 : Below wd.heap.size wd w5 := hb4.trans (hb5.mono hb4.size)
  have ho5 := own_below hod hb45
  have hN5 := hbd.below hb45 hbd.lt
  have hr5 := own_below hP.row hb45
  have hC5 := hP.cut.below hb45 hP.cut.lt
  have ne1 : ∀ j t u, RowV w5 j t u → 43 ≠ t → v.ownBlock ≠ some j := fun j t u h hne => own_row_apart ho5 h hne
  have neN : v.ownBlock ≠ some N := ne1 N _ [v] hN5 (by decide)
  have nea : v.ownBlock ≠ some a := ne1 a _ [_] hC5.sl (by decide)
  have neb : v.ownBlock ≠ some b := ne1 b _ [_] hC5.sz (by decide)
  have hNlt := hN5.lt
  have hN6 : One w6 N v 35 := (hg6.block N hNlt (fun e => neN e.symm)).trans hN5
  have hgN := grown_cellB w6 N 0 v6
  have hlt5 : ∀ j ∈ [a, b], j < w5.heap.size := hC5.lt
  have KL : KeepsL [a, b] wd (w6.setCell ⟨N, 0, none⟩ v6) := by
    refine (below_keepsL hb45 hP.cut.lt).trans ((KeepsL.of hg6 (fun j hj => ⟨hlt5 j hj, ?_⟩)).trans (KeepsL.of hgN (fun j hj => ⟨by have := hlt5 j hj; have := hg6.size; omega, fun e => by have := hlt j hj; injection e with e; omega⟩)))
    simp only [List.mem_cons, List.not_mem_nil, or_false] at hj
    rcases hj with rfl | rfl
    · exact nea
    · exact neb
  refine ⟨hN6, fun B => ?_, KL, ⟨⟨v6, hN6.set v6, ?_⟩, ?_, hP.cut.keeps KL, ?_, ?_⟩⟩
  · exact (below_keepsFrom hb45).trans ((keepsFrom_of hg6 (own_cells ho5)).trans ((KeepsOthers.setCell _ _ _).from _))
  · rw [List.length_append, List.length_singleton, List.map_append, secs_append]
    have : secs ([k].map (sixAt l)) = (sixS ((l.drop (k * 6)).take 6)).cs := by simp [secs, sixAt]
    rw [this]
    exact ho6.kept hgN (.inr (fun e => by have : N + 1 ≤ N := own_ge ho6 N e; omega))
  · refine (hr5.kept hg6 (.inr (fun e => own_apart hr5 ho5 (by decide) rfl e.symm))).kept hgN (.inr (fun e => ?_))
    have : N + 1 ≤ N := own_ge hP.row N e
    omega
  · have h5 : Below N w w5 := hP.below.trans (hb45.mono (by have := hP.below.size; omega))
    have h6 : Below N w w6 := h5.grown hg6 (by omega) (fun j e => by have : N + 1 ≤ j := own_ge ho5 j e; omega)
    exact h6.setCell (p := ⟨N, 0, none⟩) (Nat.le_refl _) _
  · have := hP.size
    have := hb45.size
    have := hg6.size
    simp
    omega

set_option maxRecDepth 100000 in
set_option maxHeartbeats 4000000 in
theorem shput_yes (w : World) (b g c m : Nat) (l : List Ent) (h : TabAt w b g c (m * 6) l) (hf : ∀ e ∈ l, e.fits) :
    Calls Try.prog 11 #[.pointer (some ⟨b, 0, none⟩)] w fun e w' => ∃ v, e = .returned (.tuple #[v, .int .i64 0]) ∧ w'.ownsRow w.heap.size 43 256 v m (secs (shelfL l m)) ∧ Below w.heap.size w w' := by
  have hm0 : 0 < m := by have := h.pos; omega
  have hm : m ≤ 67 := by have := h.le; omega
  have hrem : ((m * 6 : Nat) : Int).tmod 6 = 0 := by rw [Int.tmod_eq_emod_of_nonneg (by omega)]; omega
  have hlen : l.length = m * 6 := h.len
  have Hh := Lib.hid h
  have Hf := Lib.hid hf
  have Hlen := Lib.hid hlen
  clear h hf hlen
  refine calls_of_wp_marks Try.func11 rfl ?_
  simp only [Try.ntmps11, List.size_toArray, List.length_cons, List.length_nil, Nat.reduceAdd, Nat.reduceSub, Array.replicate_succ, Array.replicate_zero, List.push_toArray, List.append_toArray, List.nil_append, List.cons_append]
  go_wp2_with fail
  refine (tsize_any w b g c (m * 6) l Hh.out).mono ?_
  rintro e w1 ⟨rfl, hw⟩
  rw [hw]
  clear hw w1
  go_wp2_with fail
  obtain ⟨w1, hw1⟩ : ∃ w1, w.alloc (.cells #[.slice none 0 0] 35) = w1 := ⟨_, rfl⟩
  have oL : One w1 w.heap.size (.slice none 0 0) 35 := by rw [← hw1]; exact One.new w _ _
  have hb1 : Below w.heap.size w w1 := by rw [← hw1]; exact (Below.refl _ w).alloc (Nat.le_refl _) _
  have hs1 : w1.heap.size = w.heap.size + 1 := by rw [← hw1]; simp
  rw [hw1]
  clear hw1
  have h1 := Hh.out.later hb1
  obtain ⟨N, hN⟩ : ∃ N, w.heap.size = N := ⟨_, rfl⟩
  rw [hN] at oL hb1 hs1 ⊢
  refine (tplaces_any w1 b g c (m * 6) l h1).mono ?_
  rintro e w2 ⟨A', c', rfl, hr2, hb2⟩
  obtain ⟨g', cap', hv, hcap, hcm, hg1, hg2⟩ := own_form hr2 (by omega)
  injection hv with e1 e2 e3
  subst e1 e3
  have oL2 := oL.below hb2 oL.lt
  have hB2 : Below N w w2 := hb1.trans (hb2.mono (by omega))
  have hs2 : N + 1 ≤ w2.heap.size := by have := hb2.size; omega
  clear h1 oL hb1 hb2 e2
  go_wp2_with fail
  refine (chunk_any w2 g' c' m hcap hcm).mono ?_
  rintro e w3 ⟨a', b', rfl, hC, hlt, hb3⟩
  have oL3 := oL2.below hb3 oL2.lt
  have hr3 := own_below hr2 hb3
  have hB3 : Below N w w3 := hB2.trans (hb3.mono (by omega))
  have hs3 : N + 1 ≤ w3.heap.size := by have := hb3.size; omega
  have hr3 := own_rebase (base' := N + 1) hr3 (fun k q => by have : w1.heap.size ≤ k := own_ge hr3 k q; omega)
  have hltN : ∀ k ∈ [a', b'], N + 1 ≤ k := fun k hk => by have := hlt k hk; omega
  have hClt := hC.lt
  clear oL2 hr2 hB2 hb3 hlt hs2
  have hNw : N ≤ w.heap.size := by omega
  have h0 : ShPut N a' b' g' c' m w3.heap.size l w [] w3 := ⟨⟨_, oL3, World.ownsRow_nil _ _ _ _⟩, hr3, hC, hB3, Nat.le_refl _⟩
  clear hr3 hB3 oL3 hg1 hg2 hs1
  go_wp2_with fail
  refine wp_rangeFunc ?_
  refine wpIn_rangeFunc_ownG (F := Fence.wide) rfl (by omega) (gf := 47) (lb := #[.pointer (some ⟨a', 0, none⟩), .pointer (some ⟨b', 0, none⟩)]) rfl trivial (enters_of Try.func47 (by kernel_rfl) rfl)
    (chunk_stops Fence.wide 2 trivial rfl (by omega) a' b' g' c' m (by omega) w3 hC) (fun h k => h.trans k) (keepsL_b hClt) (Below.refl _ _) (fun _ => rfl)
    (fun (pre : List (Fin m)) W => ShPut N a' b' g' c' m w3.heap.size l w (valsC pre) W)
    (fun _ _ _ => False)
    (ownFrom_stays (fun s W W' h hs => h.stays (by omega) hNw hs))
    (fun _ _ _ _ _ hs _ _ => hs)
    h0
    (fun x => { tmps := #[.pointer (some ⟨b, 0, none⟩), undef, .slice none 0 0, .int .i64 0, .pointer (some ⟨N, 0, none⟩), .slice (some ⟨g', x.1 * 6 * 34, none⟩) 6 6, .pointer (some ⟨b, 0, none⟩), .bool false, .bool false, .pointer (some ⟨b, 0, none⟩), .int .i64 ((m : Int) * 6), .int .i64 0, .bool false, .bool false, .pointer (some ⟨b, 0, none⟩), .slice (some ⟨g', 0, none⟩) (m * 6) c', .func (.func 47) #[] #[.pointer (some ⟨a', 0, none⟩), .pointer (some ⟨b', 0, none⟩)], .slice (some ⟨g', x.1 * 6 * 34, none⟩) 6 6, undef, undef, undef, undef, undef, undef], defers := [] }) ?assign ?body ?done ?stop
  case assign =>
    intro l x W K hK
    gi_wp2
    exact hK
  case body =>
    rintro lo pre x W hP hpl
    obtain ⟨xs, hxs⟩ : ∃ xs, valsC pre = xs := ⟨_, rfl⟩
    have hxl : xs.length < m := by rw [← hxs, valsC, List.length_map]; exact hpl
    rw [hxs] at hP
    have hx := x.2
    obtain ⟨k, hk⟩ : ∃ k, x.1 = k := ⟨_, rfl⟩
    rw [hk] at hx ⊢
    obtain ⟨v, hbox, hown⟩ := hP.box
    have hcL := hbox.cell
    have hrow0 : W.rangeAt g' 0 (ents l) := own_range hP.row 0 _ (fun j u hj => by rw [Nat.zero_add]; exact hj)
    have hrg := range_take (range_drop hrow0 (k := k * 6) (by rw [Hlen.out]; omega)) 6
    rw [Nat.zero_add] at hrg
    have hgl : g' < W.heap.size := own_lt hP.row rfl
    have hl6 : LiesV W.drew W.drew.heap.size (some ⟨g', k * 6 * 34, none⟩) (ents ((l.drop (k * 6)).take 6)) := fun _ => ⟨g', k * 6 * 34, rfl, hgl, hrg⟩
    have H6 : Hid (((l.drop (k * 6)).take 6).length = 6) := by show _ = _; rw [List.length_take, List.length_drop, Hlen.out]; omega
    have Hf6 : Hid (∀ e ∈ (l.drop (k * 6)).take 6, e.fits) := fun e he => Hf.out e (List.mem_of_mem_drop (List.mem_of_mem_take he))
    gi_wp2
    obtain ⟨wd, hwd⟩ : ∃ wd, W.drew = wd := ⟨_, rfl⟩
    refine wpIn_region_held_drew (S := fun _ => True) (by kernel_rfl) (by kernel_rfl) trivial (fun hHeld => ?_)
    have hbd : One W.drew N v 35 := hbox
    have hod : W.drew.ownsRow (N + 1) 43 256 v xs.length (secs (xs.map (sixAt l))) := hown.drew
    have hMs : w3.heap.size ≤ W.drew.heap.size := hP.size
    have hPd : ShPut N a' b' g' c' m w3.heap.size l w xs W.drew := ⟨⟨v, hbd, hod⟩, hP.row.drew, ⟨hP.cut.sl, hP.cut.sz, hP.cut.le, hP.cut.cap⟩, hP.below.drew, hP.size⟩
    rw [hwd] at hbd hod hPd hl6 hMs ⊢
    clear hcL hbox hown hP hrow0 hrg hgl
    refine wpAnyH_take (i := 1) (oi := ⟨_, _, _, _, _, _⟩) (v := ?_) rfl (by kernel_rfl) (by kernel_rfl) (by kernel_rfl) (fun _ _ _ h => h) (Or.inl ⟨by rfl, ?_⟩) (by assumption) ?_
    rotate_left
    · intro W hSW; go_simp; try with_reducible rfl
    try simp only [Act.put, List.setIfInBounds_toArray, List.set_cons_zero, List.set_cons_succ]
    refine wpAnyH_ready (rs := [0, 2]) (by kernel_rfl) (by simp) ?_
    refine AllReadyH.cons (o := ⟨_, _, _, _, _, _⟩) rfl (fun K hK => ?_) ?_
    · skip
      have hcq := (hbd).cell
      go_simp
      refine hK.out _ _ trivial (fun hHeld => ?_)
      try clear hQ2
      clear hK K
      try simp only [Act.put, List.setIfInBounds_toArray, List.set_cons_zero, List.set_cons_succ]
      refine wpAnyH_ready (rs := [2]) (by kernel_rfl) (by simp) ?_
      refine AllReadyH.cons (o := ⟨_, _, _, _, _, _⟩) rfl (fun K hK => ?_) AllReadyH.nil
      go_simp
      refine (ssector_any wd wd.heap.size 6 _ ((l.drop (k * 6)).take 6) hl6 H6.out (Nat.le_refl _) Hf6.out (Nat.le_refl _)).mono ?_
      rintro r w4 ⟨rfl, hb4⟩
      have hbd4 := hbd.below hb4 hbd.lt
      have hod4 := own_below hod hb4
      try simp only []
      refine hK.out _ _ trivial (fun hHeld => ?_)
      try clear hQ2
      clear hK K
      try simp only [Act.put, List.setIfInBounds_toArray, List.set_cons_zero, List.set_cons_succ]
      refine wpAnyH_ready (rs := [3]) (by kernel_rfl) (by simp) ?_
      refine AllReadyH.cons (o := ⟨_, _, _, _, _, _⟩) rfl (fun K hK => ?_) AllReadyH.nil
      refine step_of_list rfl (fun Q2 hQ2 => ?_)
      refine wpList_buildSlice_oneV rfl 35 43 _ rfl (sixS ((l.drop (k * 6)).take 6)).cs rfl Try.underlying35 Try.infoS (Sec.cs_length _) (by decide) (by decide) ?_
      intro w5 hr5 hb5 hs5
      refine wpList_nil (hQ2 _ _ ?_)
      have hbd5 := hbd4.below hb5 hbd4.lt
      have hod5 := own_below hod4 hb5
      refine hK.out _ _ trivial (fun hHeld => ?_)
      try clear hQ2
      clear hK K
      try simp only [Act.put, List.setIfInBounds_toArray, List.set_cons_zero, List.set_cons_succ]
      refine wpAnyH_ready (rs := [4]) (by kernel_rfl) (by simp) ?_
      refine AllReadyH.cons (o := ⟨_, _, _, _, _, _⟩) rfl (fun K hK => ?_) AllReadyH.nil
      refine step_of_list rfl (fun Q2 hQ2 => ?_)
      refine wpList_append_one rfl _ _ 35 rfl (N + 1) 43 Try.underlying35 Try.infoS rfl (by decide) v xs.length _ rfl hod5 w4.heap.size (sixS ((l.drop (k * 6)).take 6)).cs rfl hr5 (Sec.cs_length _) (Sec.one _) (by unfold maxLen; omega) (by omega) (by have := hb5.size; have := hb4.size; omega) ?_
      intro v6 w6 hown6 hg6 _
      obtain ⟨A6, c6, rfl, _, _⟩ := own_slice hown6
      refine wpList_nil (hQ2 _ _ ?_)
      refine hK.out _ _ trivial (fun hHeld => ?_)
      try clear hQ2
      clear hK K
      try simp only [Act.put, List.setIfInBounds_toArray, List.set_cons_zero, List.set_cons_succ]
      obtain ⟨hb6, hR⟩ := shput_round hPd hbd hod hNw hltN hb4 hb5 hg6 hown6
      have hcq := hb6.cell
      have hfq := hb6.free
      refine wpAnyH_ready (rs := [5]) (by kernel_rfl) (by simp) ?_
      refine AllReadyH.cons (o := ⟨_, _, _, _, _, _⟩) rfl (fun K hK => ?_) AllReadyH.nil
      go_simp
      refine hK.out _ _ trivial (fun hHeld => ?_)
      try clear hQ2
      clear hK K
      try simp only [Act.put, List.setIfInBounds_toArray, List.set_cons_zero, List.set_cons_succ]
      refine wpAnyH_done (by kernel_rfl) ?_ _
      clear hcq hfq
      simp only [NoOut]
      gi_wp2
      refine ⟨?_, ?_, ?_⟩
      · exact (hwd ▸ (KeepsOthers.drew W).from _ : KeepsFrom _ W wd).trans (hR.1 _)
      · exact (hwd ▸ KeepsL.refl _ W : KeepsL _ W wd).trans hR.2.1
      · show ShPut N a' b' g' c' m w3.heap.size l w (valsC (pre ++ [x])) _
        rw [valsC_snoc, hxs, hk]
        exact hR.2.2
    refine AllReadyH.cons (o := ⟨_, _, _, _, _, _⟩) rfl (fun K hK => ?_) AllReadyH.nil
    go_simp
    refine (ssector_any wd wd.heap.size 6 _ ((l.drop (k * 6)).take 6) hl6 H6.out (Nat.le_refl _) Hf6.out (Nat.le_refl _)).mono ?_
    rintro r w4 ⟨rfl, hb4⟩
    have hbd4 := hbd.below hb4 hbd.lt
    have hod4 := own_below hod hb4
    try simp only []
    refine hK.out _ _ trivial (fun hHeld => ?_)
    try clear hQ2
    clear hK K
    try simp only [Act.put, List.setIfInBounds_toArray, List.set_cons_zero, List.set_cons_succ]
    refine wpAnyH_ready (rs := [0, 3]) (by kernel_rfl) (by simp) ?_
    refine AllReadyH.cons (o := ⟨_, _, _, _, _, _⟩) rfl (fun K hK => ?_) ?_
    · skip
      have hcq := (hbd4).cell
      go_simp
      refine hK.out _ _ trivial (fun hHeld => ?_)
      try clear hQ2
      clear hK K
      try simp only [Act.put, List.setIfInBounds_toArray, List.set_cons_zero, List.set_cons_succ]
      refine wpAnyH_ready (rs := [3]) (by kernel_rfl) (by simp) ?_
      refine AllReadyH.cons (o := ⟨_, _, _, _, _, _⟩) rfl (fun K hK => ?_) AllReadyH.nil
      refine step_of_list rfl (fun Q2 hQ2 => ?_)
      refine wpList_buildSlice_oneV rfl 35 43 _ rfl (sixS ((l.drop (k * 6)).take 6)).cs rfl Try.underlying35 Try.infoS (Sec.cs_length _) (by decide) (by decide) ?_
      intro w5 hr5 hb5 hs5
      refine wpList_nil (hQ2 _ _ ?_)
      have hbd5 := hbd4.below hb5 hbd4.lt
      have hod5 := own_below hod4 hb5
      refine hK.out _ _ trivial (fun hHeld => ?_)
      try clear hQ2
      clear hK K
      try simp only [Act.put, List.setIfInBounds_toArray, List.set_cons_zero, List.set_cons_succ]
      refine wpAnyH_ready (rs := [4]) (by kernel_rfl) (by simp) ?_
      refine AllReadyH.cons (o := ⟨_, _, _, _, _, _⟩) rfl (fun K hK => ?_) AllReadyH.nil
      refine step_of_list rfl (fun Q2 hQ2 => ?_)
      refine wpList_append_one rfl _ _ 35 rfl (N + 1) 43 Try.underlying35 Try.infoS rfl (by decide) v xs.length _ rfl hod5 w4.heap.size (sixS ((l.drop (k * 6)).take 6)).cs rfl hr5 (Sec.cs_length _) (Sec.one _) (by unfold maxLen; omega) (by omega) (by have := hb5.size; have := hb4.size; omega) ?_
      intro v6 w6 hown6 hg6 _
      obtain ⟨A6, c6, rfl, _, _⟩ := own_slice hown6
      refine wpList_nil (hQ2 _ _ ?_)
      refine hK.out _ _ trivial (fun hHeld => ?_)
      try clear hQ2
      clear hK K
      try simp only [Act.put, List.setIfInBounds_toArray, List.set_cons_zero, List.set_cons_succ]
      obtain ⟨hb6, hR⟩ := shput_round hPd hbd hod hNw hltN hb4 hb5 hg6 hown6
      have hcq := hb6.cell
      have hfq := hb6.free
      refine wpAnyH_ready (rs := [5]) (by kernel_rfl) (by simp) ?_
      refine AllReadyH.cons (o := ⟨_, _, _, _, _, _⟩) rfl (fun K hK => ?_) AllReadyH.nil
      go_simp
      refine hK.out _ _ trivial (fun hHeld => ?_)
      try clear hQ2
      clear hK K
      try simp only [Act.put, List.setIfInBounds_toArray, List.set_cons_zero, List.set_cons_succ]
      refine wpAnyH_done (by kernel_rfl) ?_ _
      clear hcq hfq
      simp only [NoOut]
      gi_wp2
      refine ⟨?_, ?_, ?_⟩
      · exact (hwd ▸ (KeepsOthers.drew W).from _ : KeepsFrom _ W wd).trans (hR.1 _)
      · exact (hwd ▸ KeepsL.refl _ W : KeepsL _ W wd).trans hR.2.1
      · show ShPut N a' b' g' c' m w3.heap.size l w (valsC (pre ++ [x])) _
        rw [valsC_snoc, hxs, hk]
        exact hR.2.2
    refine AllReadyH.cons (o := ⟨_, _, _, _, _, _⟩) rfl (fun K hK => ?_) AllReadyH.nil
    refine step_of_list rfl (fun Q2 hQ2 => ?_)
    refine wpList_buildSlice_oneV rfl 35 43 _ rfl (sixS ((l.drop (k * 6)).take 6)).cs rfl Try.underlying35 Try.infoS (Sec.cs_length _) (by decide) (by decide) ?_
    intro w5 hr5 hb5 hs5
    refine wpList_nil (hQ2 _ _ ?_)
    have hbd5 := hbd4.below hb5 hbd4.lt
    have hod5 := own_below hod4 hb5
    refine hK.out _ _ trivial (fun hHeld => ?_)
    try clear hQ2
    clear hK K
    try simp only [Act.put, List.setIfInBounds_toArray, List.set_cons_zero, List.set_cons_succ]
    refine wpAnyH_ready (rs := [0]) (by kernel_rfl) (by simp) ?_
    refine AllReadyH.cons (o := ⟨_, _, _, _, _, _⟩) rfl (fun K hK => ?_) AllReadyH.nil
    have hcq := (hbd5).cell
    go_simp
    refine hK.out _ _ trivial (fun hHeld => ?_)
    try clear hQ2
    clear hK K
    try simp only [Act.put, List.setIfInBounds_toArray, List.set_cons_zero, List.set_cons_succ]
    refine wpAnyH_ready (rs := [4]) (by kernel_rfl) (by simp) ?_
    refine AllReadyH.cons (o := ⟨_, _, _, _, _, _⟩) rfl (fun K hK => ?_) AllReadyH.nil
    refine step_of_list rfl (fun Q2 hQ2 => ?_)
    refine wpList_append_one rfl _ _ 35 rfl (N + 1) 43 Try.underlying35 Try.infoS rfl (by decide) v xs.length _ rfl hod5 w4.heap.size (sixS ((l.drop (k * 6)).take 6)).cs rfl hr5 (Sec.cs_length _) (Sec.one _) (by unfold maxLen; omega) (by omega) (by have := hb5.size; have := hb4.size; omega) ?_
    intro v6 w6 hown6 hg6 _
    obtain ⟨A6, c6, rfl, _, _⟩ := own_slice hown6
    refine wpList_nil (hQ2 _ _ ?_)
    refine hK.out _ _ trivial (fun hHeld => ?_)
    try clear hQ2
    clear hK K
    try simp only [Act.put, List.setIfInBounds_toArray, List.set_cons_zero, List.set_cons_succ]
    obtain ⟨hb6, hR⟩ := shput_round hPd hbd hod hNw hltN hb4 hb5 hg6 hown6
    have hcq := hb6.cell
    have hfq := hb6.free
    refine wpAnyH_ready (rs := [5]) (by kernel_rfl) (by simp) ?_
    refine AllReadyH.cons (o := ⟨_, _, _, _, _, _⟩) rfl (fun K hK => ?_) AllReadyH.nil
    go_simp
    refine hK.out _ _ trivial (fun hHeld => ?_)
    try clear hQ2
    clear hK K
    try simp only [Act.put, List.setIfInBounds_toArray, List.set_cons_zero, List.set_cons_succ]
    refine wpAnyH_done (by kernel_rfl) ?_ _
    clear hcq hfq
    simp only [NoOut]
    gi_wp2
    refine ⟨?_, ?_, ?_⟩
    · exact (hwd ▸ (KeepsOthers.drew W).from _ : KeepsFrom _ W wd).trans (hR.1 _)
    · exact (hwd ▸ KeepsL.refl _ W : KeepsL _ W wd).trans hR.2.1
    · show ShPut N a' b' g' c' m w3.heap.size l w (valsC (pre ++ [x])) _
      rw [valsC_snoc, hxs, hk]
      exact hR.2.2
  case done =>
    rintro D ys W hD hS hP hK
    have hv : valsC ys = List.range m := hS
    rw [hv] at hP
    obtain ⟨v, hbox, hown⟩ := hP.box
    rw [List.length_range] at hown
    have hcL := hbox.cell
    have hsp := stays_put hD hK (.deferred none)
    have hst := hP.stays (by omega) hNw hsp
    go_wp2_with fail
    refine ⟨by simp, .inl ⟨_, _, rfl, run_takeDeferred hK, ?_⟩⟩
    refine ⟨_, results_tmp2 rfl _ _ _, ?_⟩
    exact ⟨v, rfl, own_rebase (hsp.own hown) (fun j q => by have : N + 1 ≤ j := own_ge hown j q; omega), by rw [hN]; exact hst.below⟩
  case stop =>
    rintro D c2 pre W _ _ h _
    exact h.elim
end Go.Proofs.Ytiglffkbaddefaa
namespace Go.Proofs.Ytiglffkbaddefaa
open Go.RowKit Go.Shelf
set_option linter.unusedVariables false
set_option linter.unusedSimpArgs false

set_option maxRecDepth 100000 in
set_option maxHeartbeats 4000000 in
theorem shput_no (w : World) (b g c n : Nat) (l : List Ent) (h : TabAt w b g c n l) (hn : n % 6 ≠ 0) :
    Calls Try.prog 11 #[.pointer (some ⟨b, 0, none⟩)] w fun e w' => e = .returned (.tuple #[.slice none 0 0, .int .i64 1]) ∧ w' = w := by
  obtain ⟨r, hr⟩ : ∃ r : Int, ((n : Int)).tmod 6 = r := ⟨_, rfl⟩
  have hr0 : (r != 0) = true := by rw [bne_iff_ne, ← hr, Int.tmod_eq_emod_of_nonneg (by omega)]; omega
  have hri : (n : Int) % 6 = r := by rw [← hr, Int.tmod_eq_emod_of_nonneg (by omega)]
  have Hh := Lib.hid h
  clear h hr
  refine calls_of_wp_marks Try.func11 rfl ?_
  simp only [Try.ntmps11, List.size_toArray, List.length_cons, List.length_nil, Nat.reduceAdd, Nat.reduceSub, Array.replicate_succ, Array.replicate_zero, List.push_toArray, List.append_toArray, List.nil_append, List.cons_append]
  go_wp2_with fail
  refine (tsize_any w b g c n l Hh.out).mono ?_
  rintro e w1 ⟨rfl, hw⟩
  rw [hw]
  clear hw w1
  go_wp2_with fail
  exact ⟨_, results_tmp2 rfl _ _ _, rfl, rfl⟩

def chg0 : Chg := (0, zeroSec)
theorem Try.infoChg : (Try.prog.info? 45).map (fun i => (i.zero, i.size, i.bytes)) = some (some (.agg chg0.cs.toArray), 257, 264) := by kernel_rfl
theorem Try.sizeChg : (Try.prog.info? 45).map (·.size) = some 257 := by kernel_rfl
theorem made_chgs (n : Nat) : (madeCells chg0.cs.toArray (n * 257)).toList = chgs (List.replicate n chg0) := by
  have h := made_list chg0.cs.toArray (by rw [List.size_toArray, Chg.cs_length]; omega) n
  rw [List.size_toArray, Chg.cs_length] at h
  rw [h, chgs, List.flatMap_replicate]
theorem chg_one12 (x : Int) (s : Sec) : ∀ u ∈ Value.int .i64 x :: s.cs, u.oneCell' = true := by
  intro u hu
  rcases List.mem_cons.1 hu with rfl | h
  · rfl
  · exact Sec.one _ u h
/-- Sectors as changes of those from a number on. -/
def chgsOf (f : Nat) (ss : List Sec) : List Chg := (List.range ss.length).map fun i => (f + i, ss.getD i zeroSec)
theorem chgsOf_length (f : Nat) (ss : List Sec) : (chgsOf f ss).length = ss.length := by simp [chgsOf]
theorem chgsOf_get {f : Nat} {ss : List Sec} {i : Nat} {s : Sec} (h : ss[i]? = some s) : (chgsOf f ss)[i]? = some (f + i, s) := by
  have hi := (List.getElem?_eq_some_iff.1 h).1
  unfold chgsOf
  rw [List.getElem?_map, List.getElem?_range hi, Option.map_some, List.getD_eq_getElem?_getD, h]
  rfl
/-- The first k told, the rest noughts. -/
def partC (f : Nat) (ss : List Sec) (k : Nat) : List Chg := (chgsOf f ss).take k ++ List.replicate (ss.length - k) chg0
theorem partC_length {f : Nat} {ss : List Sec} {k : Nat} (hk : k ≤ ss.length) : (partC f ss k).length = ss.length := by simp [partC, chgsOf_length]; omega
theorem partC_set {f : Nat} {ss : List Sec} {k : Nat} {s : Sec} (h : ss[k]? = some s) : (partC f ss k).set k (f + k, s) = partC f ss (k + 1) := by
  have hk := (List.getElem?_eq_some_iff.1 h).1
  have hl : ((chgsOf f ss).take k).length = k := by rw [List.length_take, chgsOf_length]; omega
  unfold partC
  rw [List.set_append_right _ _ (by omega), hl, Nat.sub_self, show ss.length - k = (ss.length - (k + 1)) + 1 by omega, List.replicate_succ, List.set_cons_zero]
  have ht : (chgsOf f ss).take (k + 1) = (chgsOf f ss).take k ++ [(f + k, s)] := by
    rw [List.take_add_one, chgsOf_get h]
    rfl
  rw [ht, List.append_assoc]
  rfl
theorem Try.zeroC12 : (Try.prog.info? 45).bind (·.zero) = some (.agg (Value.int .i64 0 :: zeroSec.cs).toArray) := by kernel_rfl
theorem Try.builtC (x : Int) (s : Sec) : Try.prog.built 45 [(0, .int .i64 x), (1, .agg s.cs.toArray)] = some (.int .i64 x :: s.cs).toArray := built_chg Try.zeroC12 Try.underlying45 (by kernel_rfl) x s

set_option maxRecDepth 100000 in
set_option maxHeartbeats 4000000 in
theorem shchanges_any (w : World) (b g c m f : Nat) (l : List Ent) (h : TabAt w b g c (m * 6) l) (hf : ∀ e ∈ l, e.fits) (hff : f ≤ 2000000000000) :
    Calls Try.prog 12 #[.pointer (some ⟨b, 0, none⟩), .int .i64 (f : Int)] w fun e w' => ∃ v, e = .returned (.tuple #[v, .int .i64 0]) ∧ w'.ownsRow w.heap.size 45 257 v m (chgs (chgsOf f (shelfL l m))) ∧ Below w.heap.size w w' := by
  obtain ⟨i0, hi, hz0, hz1, hz2⟩ := info_parts Try.infoChg
  have hm : m ≤ 67 := by have := h.le; omega
  have hm0 : 0 < m := by have := h.pos; omega
  have Hh := Lib.hid h
  have Hf := Lib.hid hf
  have HL := Lib.hid (shelfL_length l m)
  obtain ⟨ss, hss⟩ : ∃ ss, shelfL l m = ss := ⟨_, rfl⟩
  have Hss := Lib.hid hss
  rw [hss] at HL ⊢
  clear h hf hss
  go_enter Try.func12, Try.ntmps12
  go_wp2_with fail
  refine (shput_yes w b g c m l Hh.out Hf.out).mono ?_
  rintro e w1 ⟨v, rfl, ho1, hb1⟩
  obtain ⟨gs, cs, rfl, hcs, hcm, hgs1, hgs2⟩ := own_form ho1 hm0
  rw [Hss.out] at ho1
  have HO1 := Lib.hid ho1
  clear ho1 Hss Hh Hf
  obtain ⟨N1, hN1⟩ : ∃ N1, w1.heap.size = N1 := ⟨_, rfl⟩
  have hN : w.heap.size ≤ N1 := by have := hb1.size; omega
  go_wp2_with (at_make; refine wpList_make_full _ rfl _ _ 38 rfl w1.heap.size 45 i0 (.agg chg0.cs.toArray) 257 Try.underlying38 hi hz0 hz1 .i64 .i64 _ _ m rfl rfl rfl rfl (by rw [hz2]; omega) (by unfold maxLen; omega) (Nat.le_refl _) ?_)
  intro w2 hown hg2
  have hb2 : Below w1.heap.size w1 w2 := (Below.refl _ _).grown hg2 (Nat.le_refl _) (by simp)
  rw [made_chgs, show List.replicate m chg0 = partC f ss 0 by simp [partC, HL.out]] at hown
  have HR2 := Lib.hid hown
  have HB2 : Hid (Below N1 w1 w2) := by show Below _ _ _; rw [← hN1]; exact hb2
  have hz2' : N1 < w2.heap.size := by have := own_lt hown rfl; omega

  clear hown hg2 hb2
  go_wp2_with fail
  go_loopw [24] (fun v W => ∃ k : Nat, k ≤ m ∧ v = .int .i64 k ∧ Hid (W.ownsRow N1 45 257 (.slice (some ⟨N1, 0, none⟩) m m) m (chgs (partC f ss k))) ∧ Hid (Below N1 w1 W) ∧ Hid (N1 < W.heap.size)) (fun v _ => m - (intOf v).toNat)
  case atStart => exact ⟨0, Nat.zero_le _, rfl, HR2, HB2, hz2'⟩
  case round =>
    obtain ⟨k, hk, rfl, HR, HB, HZ⟩ := hrel
    clear HR2 HB2 hz2'
    by_cases hlt : k < m
    · have hlt' : (k : Int) < (m : Int) := by omega
      have hk0 : (0 : Int) ≤ (k : Int) := by omega
      obtain ⟨s, hs⟩ : ∃ s, ss[k]? = some s := ⟨_, List.getElem?_eq_getElem (by rw [HL.out]; exact hlt)⟩
      have hos : wr.ownsRow w.heap.size 43 256 (.slice (some ⟨gs, 0, none⟩) m cs) m (secs ss) := own_but HO1.out (But.of [] HB.out) (fun j e => by cases e; exact ⟨by show gs < N1; omega, by simp⟩)
      have Hra := Lib.hid (sec_range hos hs)
      have Hse := Lib.hid (sec_size s)
      have Hset := Lib.hid (partC_set (f := f) hs)
      have Hcs : Hid (Value.int .i64 ((f : Int) + (k : Int)) :: s.cs = Chg.cs (f + k, s)) := by show _ = _; rw [Chg.cs]; simp
      obtain ⟨NE, hNE⟩ : ∃ NE, wr.heap.size = NE := ⟨_, rfl⟩
      have hz : N1 < NE := by rw [← hNE]; exact HZ.out
      clear hs hos
      go_wp2_with (first
        | ((with_reducible refine at_load 43 ?_); refine wpList_load_mid rfl 43 _ rfl gs (k * 256) rfl s.cs _ Hra.out Try.underlying43 rfl Hse.out ?_)
        | ((with_reducible refine at_alloc 43 ?_); refine alloc_sec rfl rfl ?_; intro w3 hr3 hb3 hs3; rw [hNE] at hr3 hb3 ⊢)
        | ((with_reducible refine at_store 43 ?_); refine store_sec rfl _ _ rfl NE s rfl rfl hr3 (Sec.cs_length _) ?_; intro w4 hr4 hg4 hs4; have hb4 : Below NE wr w4 := below_grown hb3 hg4 (Nat.le_refl _) (by have := hb3.size; omega); have HO4 : Hid (w4.ownsRow N1 45 257 (.slice (some ⟨N1, 0, none⟩) m m) m (chgs (partC f ss k))) := own_below HR.out (by rw [hNE]; exact hb4); have ht := own_there HO4.out (k * 257) 257 (by omega))
        | ((with_reducible refine at_load 43 ?_); refine load_sec rfl _ rfl NE rfl hr4 ?_)
        | ((with_reducible refine at_build 45 ?_); refine wpList_build_to rfl 45 _ rfl (.int .i64 ((f : Int) + (k : Int)) :: s.cs) (by rw [Array.toList_map]; exact Try.builtC _ _) ?_)
        | ((with_reducible refine at_store 45 ?_); refine wpList_store_midV rfl 45 _ _ rfl N1 (k * 257) (.int .i64 ((f : Int) + (k : Int)) :: s.cs) rfl rfl (by rw [List.size_toArray, List.length_cons, Sec.cs_length]; exact ht) (by rw [List.size_toArray, List.length_cons, Sec.cs_length]; exact Try.sizeChg) (all_oneCell_toArray (chg_one12 _ _)) ?_; intro w5 hw5; subst hw5))
      have hput := own_put (.int .i64 ((f : Int) + (k : Int)) :: s.cs) (k * 257) w4 _ HO4.out (by rw [List.length_cons, Sec.cs_length]; omega)
      rw [Hcs.out, chgs, flat_put Chg.cs_length (by rw [partC_length (by rw [HL.out]; omega), HL.out]; exact hlt), Hset.out] at hput
      have HR5 : Hid ((w4.setCells N1 (k * 257) (Chg.cs (f + k, s))).ownsRow N1 45 257 (.slice (some ⟨N1, 0, none⟩) m m) m (chgs (partC f ss (k + 1)))) := hput.1
      have HB5 : Hid (Below N1 w1 (w4.setCells N1 (k * 257) (Chg.cs (f + k, s)))) := (HB.out.trans (hb4.mono (by omega))).grown hput.2 (by have := hb4.size; omega) (fun j e => by cases e; exact Nat.le_refl _)
      have HZ5 : Hid (N1 < (w4.setCells N1 (k * 257) (Chg.cs (f + k, s))).heap.size) := by show _ < _; have := hput.2.size; have := hb4.size; omega
      rw [Hcs.out]
      clear HR HB HZ HO4 ht hput hr3 hb3 hs3 hr4 hg4 hs4 hb4
      go_wp2_with fail
      go_roundw
      case rel => exact ⟨k + 1, by omega, by go_num, HR5, HB5, HZ5⟩
      case measure => simp [intOf]; omega
    · obtain rfl : k = m := by omega
      have he : partC f ss k = chgsOf f ss := by
        unfold partC
        rw [List.take_of_length_le (by rw [chgsOf_length, HL.out]; exact Nat.le_refl _), HL.out, Nat.sub_self]
        simp
      have HR3 := Lib.hid (he ▸ HR.out)
      clear HR he
      go_wp2_with fail
      go_ret2
      exact ⟨_, rfl, own_rebase HR3.out (fun j e => by cases e; exact hN), hb1.trans (HB.out.mono hN)⟩
end Go.Proofs.Ytiglffkbaddefaa
