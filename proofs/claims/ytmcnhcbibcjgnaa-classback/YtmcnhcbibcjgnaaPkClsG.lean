/-
  Layer 15: the contract of Add.
-/
import Derived.Test.YtmcnhcbibcjgnaaPkClsH
import Derived.Test.YtmcnhcbibcjgnaaPkRegS
import Derived.Test.YtmcnhcbibcjgnaaPkStillB
import Derived.Test.YtmcnhcbibcjgnaaPkExecRow
import Derived.Deep.RegionHeld3
import Derived.Deep.Cut
import Derived.BigQuiet
import Derived.StillTailTactics
namespace Go.Proofs.Ytmcnhcbibcjgnaa
open Go.RowKit Go.Maps
set_option linter.unusedVariables false
set_option linter.unusedSimpArgs false

theorem run_makeMap15 {P : Program} {w : World} (t k e : TypeId) (n : Int) (h : P.underlying t = some (.map k e)) : (Instr.makeMap t (some (.int .i64 n))).run P w = .ok (.map (some w.heap.size)) (w.alloc (.map #[] 0)) := by
  simp [Instr.makeMap, run_underlying h, go_sem, Result.andThen]

/-- What lives while a class is appended: the class in its box N, the set's two cells, its row and its index, in whatever state. -/
structure AddAt (w : World) (base g N : Nat) (b : Nat) (L : List Nat) (c : Cl) (vr vo : Value) (lo : List Cl) (n : Nat) (D : DataW Unit) (W : World) : Prop where
  box : RowV W N 34 (clv c)
  row : RowV W g 60 [vr, .map (some b)]
  own : W.ownsRow base 34 4 vo lo.length (clsV lo)
  map : W.ownsMap Try.prog 9 (plainElem (H := Unit) Try.prog 3) b n D
  but : But L w.heap.size w W
  hgL : g ∈ L
  vL : ∀ k, vo.ownBlock = some k → k ∈ L ∨ N < k
  bL : b ∈ L ∨ N < b
  hN : N = w.heap.size
  lts : ∀ k ∈ L, base ≤ k ∧ k < w.heap.size
  size : w.heap.size + 1 ≤ W.heap.size
section
variable {w W W' : World} {base g N b n n' : Nat} {L : List Nat} {c : Cl} {vr vo v' : Value} {lo lo' : List Cl} {D D' : DataW Unit}
theorem AddAt.gN (h : AddAt w base g N b L c vr vo lo n D W) : g ≠ N := by have := (h.lts g h.hgL).2; have := h.hN; omega
theorem AddAt.vN (h : AddAt w base g N b L c vr vo lo n D W) : vo.ownBlock ≠ some N := by
  intro e
  rcases h.vL N e with h1 | h1
  · have := (h.lts N h1).2; have := h.hN; omega
  · omega
theorem AddAt.vg (h : AddAt w base g N b L c vr vo lo n D W) : vo.ownBlock ≠ some g := own_row_apart h.own h.row (by decide)
theorem AddAt.vb (h : AddAt w base g N b L c vr vo lo n D W) : vo.ownBlock ≠ some b := own_map_apart h.own h.map
theorem AddAt.gb (h : AddAt w base g N b L c vr vo lo n D W) : g ≠ b := row_map_apart h.row h.map
theorem AddAt.Nb (h : AddAt w base g N b L c vr vo lo n D W) : N ≠ b := row_map_apart h.box h.map
theorem AddAt.alloc (h : AddAt w base g N b L c vr vo lo n D W) (o : Obj) : AddAt w base g N b L c vr vo lo n D (W.alloc o) :=
  ⟨h.box.alloc o, h.row.alloc o, h.own.alloc o, h.map.alloc o, h.but.alloc (by have := h.size; omega) o, h.hgL, h.vL, h.bL, h.hN, h.lts, by have := h.size; simp; omega⟩
theorem AddAt.below (h : AddAt w base g N b L c vr vo lo n D W) (hb : Below W.heap.size W W') : AddAt w base g N b L c vr vo lo n D W' :=
  ⟨h.box.below h.box.lt hb, h.row.below h.row.lt hb, own_below h.own hb, map_but h.map (But.of [] hb) h.map.lt (by simp), h.but.trans (But.of L (hb.mono (by have := h.size; omega))), h.hgL, h.vL, h.bL, h.hN, h.lts, Nat.le_trans h.size hb.size⟩
theorem AddAt.drew (h : AddAt w base g N b L c vr vo lo n D W) : AddAt w base g N b L c vr vo lo n D W.drew := ⟨h.box, h.row, h.own.drew, h.map.drew, h.but.drew, h.hgL, h.vL, h.bL, h.hN, h.lts, h.size⟩
/-- The index is written. -/
theorem AddAt.upd (h : AddAt w base g N b L c vr vo lo n D W) (hg : W.grownBy W' (some b)) (hm : W'.ownsMap Try.prog 9 (plainElem (H := Unit) Try.prog 3) b n' D') : AddAt w base g N b L c vr vo lo n' D' W' :=
  ⟨h.box.keep hg (fun e => h.Nb (by injection e with e; exact e.symm)), h.row.keep hg (fun e => h.gb (by injection e with e; exact e.symm)), h.own.kept hg (.inr h.vb), hm,
    h.but.grown hg (fun k e => by injection e with e; subst e; have := h.hN; rcases h.bL with h1 | h1; exact .inl h1; right; omega) (by have := h.size; omega), h.hgL, h.vL, h.bL, h.hN, h.lts, Nat.le_trans h.size hg.size⟩
/-- A class is appended. -/
theorem AddAt.app (h : AddAt w base g N b L c vr vo lo n D W) (hg : W.grownBy W' vo.ownBlock) (own : W'.ownsRow base 34 4 v' lo'.length (clsV lo')) (hv : v'.ownBlock = vo.ownBlock ∨ v'.ownBlock = some W.heap.size) : AddAt w base g N b L c vr v' lo' n D W' := by
  refine ⟨h.box.keep hg h.vN, h.row.keep hg h.vg, own, h.map.kept hg (fun e => h.vb e.symm), h.but.grown hg (fun k e => ?_) (by have := h.size; omega), h.hgL, fun k e => ?_, h.bL, h.hN, h.lts, Nat.le_trans h.size hg.size⟩
  · have := h.hN
    rcases h.vL k e with h1 | h1
    · exact .inl h1
    · right; omega
  · rcases hv with h1 | h1
    · exact h.vL k (h1 ▸ e)
    · rw [h1] at e
      injection e with e
      have := h.size
      have := h.hN
      right; omega
/-- The row is stored. -/
theorem AddAt.sto (h : AddAt w base g N b L c vr vo lo n D W) (hr : RowV W' g 60 [v', .map (some b)]) (hg : W.grownBy W' (some g)) : AddAt w base g N b L c v' vo lo n D W' :=
  ⟨h.box.keep hg (fun e => h.gN (by injection e)), hr, h.own.kept hg (.inr h.vg), h.map.kept hg (fun e => h.gb (by injection e with e; exact e.symm)), h.but.grown hg (fun k e => by injection e with e; subst e; exact .inl h.hgL) (by have := h.size; omega), h.hgL, h.vL, h.bL, h.hN, h.lts, Nat.le_trans h.size hg.size⟩
theorem AddAt.done (h : AddAt w base g N b L c vo vo lo n D W) (hn : n = lo.length) (hD : D = idxD lo) (hok : SetOk lo) : TurnedC w base L g lo W := by
  subst hn hD
  have hb : base ≤ w.heap.size := by have := h.lts g h.hgL; omega
  have hN := h.hN
  refine ⟨_, ⟨vo, some b, ⟨h.row, h.own, (fun b2 e => ?_), (fun e => by cases e), (h.lts g h.hgL).1, hok⟩, rfl⟩, h.but, fun k hk => ?_⟩
  · injection e with e
    subst e
    refine ⟨?_, h.map⟩
    rcases h.bL with h1 | h1
    · exact (h.lts b h1).1
    · omega
  · rcases mem_footC.1 hk with rfl | e | e
    · exact .inl h.hgL
    · injection e with e
      subst e
      rcases h.bL with h1 | h1
      · exact .inl h1
      · right; omega
    · rcases h.vL k e with h1 | h1
      · exact .inl h1
      · right; omega
end

set_option maxRecDepth 100000 in
set_option maxHeartbeats 4000000 in
theorem cadd_any (w : World) (base g : Nat) (L : List Nat) (l : List Cl) (c : Cl) (h : Cls w base L g l) (hs : c.name.length ≤ maxLen) :
    Calls Try.prog 18 #[.pointer (some ⟨g, 0, none⟩), .agg (clv c).toArray] w fun e w' => e = .returned (.int .i64 (addC l c).2) ∧ TurnedC w base L g (addC l c).1 w' := by
  have HC := Lib.hid h
  have Hs := Lib.hid hs
  clear h hs
  obtain ⟨R, hR⟩ : ∃ R, addC l c = R := ⟨_, rfl⟩
  have HR := Lib.hid hR
  rw [hR]
  clear hR
  go_enter Try.func18, Try.ntmps18
  go_wp2_with first
    | ((with_reducible refine at_box 34 ?_); refine box_cl rfl _ rfl c rfl ?_)
  intro w1 hr1 hb1 hs1
  go_wp2_with ((with_reducible refine at_load 34 ?_); refine load_cl rfl _ rfl w.heap.size rfl hr1 ?_)
  refine (ccheck_any c w1).mono ?_
  rintro e w2 ⟨rfl, hb2⟩
  have hr2 := hr1.below hr1.lt hb2
  have hB2 : Below w.heap.size w w2 := hb1.trans (hb2.mono (by omega))
  have hz2 : w.heap.size + 1 ≤ w2.heap.size := by have := hb2.size; omega
  have HC2 := Lib.hid (HC.out.below hB2)
  obtain ⟨m, hm⟩ : ∃ m, checkC 10 2 c = m := ⟨_, rfl⟩
  have Hm := Lib.hid hm
  rw [hm]
  clear hm hr1 hb1 hb2 hs1
  by_cases h0 : m = 0
  rotate_left
  · have He : Hid (R = (l, m)) := by show _ = _; rw [← HR.out, addC_bad (by rw [Hm.out]; exact h0), Hm.out]
    go_wp2_with fail
    go_ret
    exact ⟨by rw [He.out]; rfl, by rw [He.out]; exact TurnedC.same HC.out hB2⟩
  subst h0
  have n0 := cl_name hr2
  go_wp2_with fail
  refine (cfind_any w2 base g L l c.name HC2.out Hs.out).mono ?_
  rintro e w3 ⟨rfl, rfl⟩
  unfold findV
  obtain ⟨f, hf⟩ : ∃ f, findC l c.name = f := ⟨_, rfl⟩
  have Hf := Lib.hid hf
  rw [hf]
  clear hf n0
  rcases f with _ | i
  rotate_left
  · have He : Hid (R = (l, 9)) := by show _ = _; rw [← HR.out, addC_twice Hm.out Hf.out]
    simp only [Option.isSome_some, Option.getD_some]
    go_wp2_with fail
    go_ret
    exact ⟨by rw [He.out]; rfl, by rw [He.out]; exact TurnedC.same HC.out hB2⟩
  simp only [Option.isSome_none, Option.getD_none]
  go_wp2_with fail
  refine (clen_any w2 base g L l HC2.out).mono ?_
  rintro e w3 ⟨rfl, rfl⟩
  obtain ⟨n, hn⟩ : ∃ n, l.length = n := ⟨_, rfl⟩
  have Hn := Lib.hid hn
  rw [hn]
  clear hn
  by_cases h8 : 8 ≤ n
  · have He : Hid (R = (l, 7)) := by show _ = _; rw [← HR.out, addC_full Hm.out Hf.out (by rw [Hn.out]; exact h8)]
    go_wp2_with fail
    go_ret
    exact ⟨by rw [He.out]; rfl, by rw [He.out]; exact TurnedC.same HC.out hB2⟩
  have He : Hid (R = (l ++ [c], 0)) := by show _ = _; rw [← HR.out, addC_yes Hm.out Hf.out (by rw [Hn.out]; omega)]
  have Hok : Hid (SetOk (l ++ [c])) := by show SetOk _; have := addC_ok HC.out.ok c; rw [HR.out, He.out] at this; exact this
  obtain ⟨N, hN⟩ : ∃ N, w.heap.size = N := ⟨_, rfl⟩
  have HN := Lib.hid hN
  have HB2 := Lib.hid hB2
  rw [hN] at hr2 hz2 ⊢
  clear hB2 hN
  obtain ⟨vs, mp, hC2, hL⟩ := HC2.out
  have hLt : Hid (∀ k ∈ L, base ≤ k ∧ k < w.heap.size) := fun k hk => HC.out.lt hk
  have HL := Lib.hid hL
  clear hL
  have hq := fun (W : World) a => eql_map_nil (P := Try.prog) W a Try.underlying58
  have hmm := fun W : World => run_makeMap15 (P := Try.prog) (w := W) 58 _ _ 8 Try.underlying58
  have c1 := hC2.c1
  have HS2 := Lib.hid hC2
  clear hC2
  go_upto_if 28 with fail
  go_cut [4] from 24 (fun s4 W => ∃ b, s4 = .int .i64 0 ∧ Hid (AddAt w base g N b L c vs vs l n (idxD l) W))
  case first =>
    cases mp with
    | none =>
      have hr3 := hr2.alloc (.map #[] 0)
      have hg3 := HS2.out.row.alloc (.map #[] 0)
      have ho3 := HS2.out.own.alloc (.map #[] 0)
      have hm3 := World.ownsMap_made w2 Try.prog 9 (plainElem (H := Unit) Try.prog 3)
      have hb3 : Below w.heap.size w (w2.alloc (.map #[] 0)) := HB2.out.alloc HB2.out.size _
      go_wp2_with ((with_reducible refine at_store 58 ?_); refine wpList_store_slot rfl 58 _ _ rfl g 1 rfl (.map (some w2.heap.size)) rfl rfl 60 _ hg3 (by simp) (by kernel_rfl) ?_)
      intro w4 hr4 hg4 hs4
      go_wp2_with fail
      go_meet
      case rel =>
        have hgN : g ∈ L := HC.out.mem
        have hgm := HS2.out.glt
        have hlN := (hLt.out g hgN).2
        have hl0 := HS2.out.nomap rfl
        have hsz : (w2.alloc (.map #[] 0)).heap.size = w2.heap.size + 1 := by simp
        have hNN := HN.out
        refine ⟨w2.heap.size, rfl, hr3.keep hg4 (fun e => by injection e with e; omega), hr4, ho3.kept hg4 (.inr HS2.out.vg), ?_, ?_, hgN, fun k e => .inl (by rw [HL.out]; exact mem_footC.2 (.inr (.inr e))), .inr (by omega), HN.out.symm, hLt.out, by omega⟩
        · have h0 : n = 0 := by rw [← Hn.out, hl0]; rfl
          rw [h0, hl0]
          exact hm3.kept hg4 (fun e => by injection e with e; omega)
        · exact (But.of L hb3).grown hg4 (fun k e => by injection e with e; subst e; exact .inl hgN) (by omega)
    | some b =>
      go_wp2_with fail
      go_meet
      case rel =>
        have hgN : g ∈ L := HC.out.mem
        refine ⟨b, rfl, hr2, HS2.out.row, HS2.out.own, ?_, But.of L HB2.out, hgN, fun k e => .inl (by rw [HL.out]; exact mem_footC.2 (.inr (.inr e))), .inl (by rw [HL.out]; exact mem_footC.2 (.inr (.inl rfl))), HN.out.symm, hLt.out, by have := HN.out; omega⟩
        rw [← Hn.out]
        exact (HS2.out.map b rfl).2
  case rest =>
    obtain ⟨b, rfl, HA⟩ := hcut
    clear c1 hq hmm hr2
    have hcl : TurnedC w base L g l wc := HA.out.done Hn.out.symm rfl HC.out.ok
    obtain ⟨L', hcl', _, _⟩ := hcl
    have c1 := HA.out.row.cell (i := 1) rfl
    have n0 := cl_name HA.out.box
    have hlen := clen_any wc.drew base g L' l hcl'.drew
    rw [Hn.out] at hlen
    clear hcl'
    go_wp2_with fail
    refine wp_region_still_tail 8 (by kernel_rfl) (by kernel_rfl) ?_
    simp only [List.take_succ_cons, List.take_zero, List.drop_succ_cons, List.drop_zero]
    iterate 7 still_step
    still_call (still_ofB hlen)
    refine wpStill_nil ?_
    change wpList _ _ _ _ _ wc.drew
    have HAd := Lib.hid HA.out.drew
    generalize wc.drew = wd at *
    clear c1 n0 hlen HA
    go_wp2_with (at_mapUpdate; refine wpList_mapUpdate_own _ rfl _ _ _ 58 rfl 9 3 keyed9 Try.underlying58 _ b n _ rfl HAd.out.map (by unfold maxLen; omega) _ _ _ rfl rfl (key9 Hs.out) _ [] (plainElem_int Try.underlying3 (WalkArith.wf_i64 (by omega))) ?_; intro w4 hm4 hg4)
    have hg4' : wd.grownBy w4 (some b) := ⟨hg4.os, hg4.tape, hg4.output, hg4.size, hg4.block⟩
    have HA4 := Lib.hid (HAd.out.upd hg4' hm4)
    clear hm4 hg4 hg4' HAd
    obtain ⟨A, cap, hv, _, _⟩ := own_slice HA4.out.own
    subst hv
    have hA0 := HA4.out.drew
    have Hl8 : Hid (l.length + 1 ≤ 8) := by show _ ≤ _; rw [Hn.out]; omega
    have Hbw : Hid (base ≤ w.heap.size) := by show _ ≤ _; have := hLt.out g HC.out.mem; omega
    refine wp_region_held_drew (S := fun W => RowV W N 34 (clv c)) (by kernel_rfl) hA0.box (fun hHeld => ?_)
    generalize w4.drew = wd5 at *
    refine wpAnyH_take (i := 0) (oi := ⟨_, _, _, _, _, _⟩) (v := ?_) rfl (by kernel_rfl) (by kernel_rfl) (by kernel_rfl) (fun _ _ _ h => h) (Or.inl ⟨by rfl, ?_⟩) (by assumption) ?_
    rotate_left
    · intro W hSW; go_simp; try with_reducible rfl
    try simp only [Act.put, List.setIfInBounds_toArray, List.set_cons_zero, List.set_cons_succ]
    refine wpAnyH_take (i := 1) (oi := ⟨_, _, _, _, _, _⟩) (v := ?_) rfl (by kernel_rfl) (by kernel_rfl) (by kernel_rfl) (fun _ _ _ h => h) (Or.inl ⟨by rfl, ?_⟩) (by assumption) ?_
    rotate_left
    · intro W hSW; go_simp; try with_reducible rfl
    try simp only [Act.put, List.setIfInBounds_toArray, List.set_cons_zero, List.set_cons_succ]
    refine wpAnyH_take (i := 2) (oi := ⟨_, _, _, _, _, _⟩) (v := ?_) rfl (by kernel_rfl) (by kernel_rfl) (by kernel_rfl) (fun _ _ _ h => h) (Or.inl ⟨by rfl, ?_⟩) (by assumption) ?_
    rotate_left
    · intro W hSW; go_simp; try with_reducible rfl
    try simp only [Act.put, List.setIfInBounds_toArray, List.set_cons_zero, List.set_cons_succ]
    refine wpAnyH_take (i := 3) (oi := ⟨_, _, _, _, _, _⟩) (v := ?_) rfl (by kernel_rfl) (by kernel_rfl) (by kernel_rfl) (fun _ _ _ h => h) (Or.inl ⟨by rfl, ?_⟩) (by assumption) ?_
    rotate_left
    · intro W hSW; go_simp; try with_reducible rfl
    try simp only [Act.put, List.setIfInBounds_toArray, List.set_cons_zero, List.set_cons_succ]
    refine wpAnyH_take (i := 5) (oi := ⟨_, _, _, _, _, _⟩) (v := ?_) rfl (by kernel_rfl) (by kernel_rfl) (by kernel_rfl) (fun _ _ _ h => h) (Or.inl ⟨by rfl, ?_⟩) (by assumption) ?_
    rotate_left
    · intro W hSW; refine exec_load_row 34 (.tmp 3) ?_ N ?_ _ hSW Try.underlying34 rfl (cl_info c) <;> rfl
    try simp only [Act.put, List.setIfInBounds_toArray, List.set_cons_zero, List.set_cons_succ]
    refine wpAnyH_ready (rs := [4, 6]) (by kernel_rfl) (by simp) ?_
    refine AllReadyH.cons (o := ⟨_, _, _, _, _, _⟩) rfl (fun K hK => ?_) ?_
    · skip
      have hcq := hA0.row.cell (i := 0) rfl
      go_simp
      refine hK.out _ _ hA0.box (fun hHeld => ?_)
      try clear hQ2
      clear hK K
      try simp only [Act.put, List.setIfInBounds_toArray, List.set_cons_zero, List.set_cons_succ]
      refine wpAnyH_ready (rs := [6]) (by kernel_rfl) (by simp) ?_
      refine AllReadyH.cons (o := ⟨_, _, _, _, _, _⟩) rfl (fun K hK => ?_) AllReadyH.nil
      refine step_of_list rfl (fun Q2 hQ2 => ?_)
      refine wpList_buildSlice_oneV rfl 26 34 _ rfl (clv c) rfl Try.underlying26 Try.infoC15 rfl (by decide) (by decide) ?_
      intro x6 hr6 hb6 hs6
      refine wpList_nil (hQ2 _ _ ?_)
      have hA6 := hA0.below hb6
      refine hK.out _ _ hA6.box (fun hHeld => ?_)
      try clear hQ2
      clear hK K
      try simp only [Act.put, List.setIfInBounds_toArray, List.set_cons_zero, List.set_cons_succ]
      refine wpAnyH_ready (rs := [7]) (by kernel_rfl) (by simp) ?_
      refine AllReadyH.cons (o := ⟨_, _, _, _, _, _⟩) rfl (fun K hK => ?_) AllReadyH.nil
      refine step_of_list rfl (fun Q2 hQ2 => ?_)
      refine wpList_append_one rfl _ _ 26 rfl base 34 Try.underlying26 Try.infoC15 rfl (by decide) _ l.length (clsV l) rfl hA6.own wd5.heap.size (clv c) rfl hr6 rfl (clv_one c) (by have := Hl8.out; unfold maxLen; omega) (by have := Hl8.out; omega) (by have := hA6.size; have := Hbw.out; omega) ?_
      intro v7 x7 own7 hg7 hloc
      obtain ⟨A7, c7, rfl, _, _⟩ := own_slice own7
      refine wpList_nil (hQ2 _ _ ?_)
      have own7' := own7
      rw [← clsV_snoc, show l.length + 1 = (l ++ [c]).length by simp] at own7'
      have hA7 := hA6.app hg7 (lo' := l ++ [c]) own7' (by rw [show (l ++ [c]).length = l.length + 1 by simp]; exact hloc)
      refine hK.out _ _ hA7.box (fun hHeld => ?_)
      try clear hQ2
      clear hK K
      try simp only [Act.put, List.setIfInBounds_toArray, List.set_cons_zero, List.set_cons_succ]
      refine wpAnyH_take (i := 8) (oi := ⟨_, _, _, _, _, _⟩) (v := ?_) rfl (by kernel_rfl) (by kernel_rfl) (by kernel_rfl) (fun _ _ _ h => h) (Or.inl ⟨by rfl, ?_⟩) (by assumption) ?_
      rotate_left
      · intro W hSW; go_simp; try with_reducible rfl
      try simp only [Act.put, List.setIfInBounds_toArray, List.set_cons_zero, List.set_cons_succ]
      refine wpAnyH_take (i := 9) (oi := ⟨_, _, _, _, _, _⟩) (v := ?_) rfl (by kernel_rfl) (by kernel_rfl) (by kernel_rfl) (fun _ _ _ h => h) (Or.inl ⟨by rfl, ?_⟩) (by assumption) ?_
      rotate_left
      · intro W hSW; go_simp; try with_reducible rfl
      try simp only [Act.put, List.setIfInBounds_toArray, List.set_cons_zero, List.set_cons_succ]
      refine wpAnyH_ready (rs := [10]) (by kernel_rfl) (by simp) ?_
      refine AllReadyH.cons (o := ⟨_, _, _, _, _, _⟩) rfl (fun K hK => ?_) AllReadyH.nil
      refine step_of_list rfl (fun Q2 hQ2 => ?_)
      refine wpList_store_slot rfl 26 _ _ rfl g 0 rfl (.slice A7 (l.length + 1) c7) rfl rfl 60 _ hA7.row (by simp) (by kernel_rfl) ?_
      intro x8 hr8 hg8 hs8
      refine wpList_nil (hQ2 _ _ ?_)
      have hA8 := hA7.sto (v' := .slice A7 (l.length + 1) c7) hr8 hg8
      refine hK.out _ _ hA8.box (fun hHeld => ?_)
      try clear hQ2
      clear hK K
      try simp only [Act.put, List.setIfInBounds_toArray, List.set_cons_zero, List.set_cons_succ]
      refine wpAnyH_done (by kernel_rfl) ?_ _
      rw [show (l ++ [c]).length = l.length + 1 by simp] at hA8
      have HT : Hid (TurnedC w base L g (l ++ [c]) x8) := hA8.done (by rw [List.length_append, Hn.out]; rfl) (by rw [idxD_snoc, Hn.out]) Hok.out
      clear hA8 hA7 hA6 hA0 hr6 hb6 hg7 own7 own7' hloc hr8 hg8 hHeld
      go_wp2_with fail
      go_ret
      exact ⟨by rw [He.out]; rfl, by rw [He.out]; exact HT.out⟩
    refine AllReadyH.cons (o := ⟨_, _, _, _, _, _⟩) rfl (fun K hK => ?_) AllReadyH.nil
    refine step_of_list rfl (fun Q2 hQ2 => ?_)
    refine wpList_buildSlice_oneV rfl 26 34 _ rfl (clv c) rfl Try.underlying26 Try.infoC15 rfl (by decide) (by decide) ?_
    intro x6 hr6 hb6 hs6
    refine wpList_nil (hQ2 _ _ ?_)
    have hA6 := hA0.below hb6
    refine hK.out _ _ hA6.box (fun hHeld => ?_)
    try clear hQ2
    clear hK K
    try simp only [Act.put, List.setIfInBounds_toArray, List.set_cons_zero, List.set_cons_succ]
    refine wpAnyH_ready (rs := [4]) (by kernel_rfl) (by simp) ?_
    refine AllReadyH.cons (o := ⟨_, _, _, _, _, _⟩) rfl (fun K hK => ?_) AllReadyH.nil
    have hcq := hA6.row.cell (i := 0) rfl
    go_simp
    refine hK.out _ _ hA6.box (fun hHeld => ?_)
    try clear hQ2
    clear hK K
    try simp only [Act.put, List.setIfInBounds_toArray, List.set_cons_zero, List.set_cons_succ]
    refine wpAnyH_ready (rs := [7]) (by kernel_rfl) (by simp) ?_
    refine AllReadyH.cons (o := ⟨_, _, _, _, _, _⟩) rfl (fun K hK => ?_) AllReadyH.nil
    refine step_of_list rfl (fun Q2 hQ2 => ?_)
    refine wpList_append_one rfl _ _ 26 rfl base 34 Try.underlying26 Try.infoC15 rfl (by decide) _ l.length (clsV l) rfl hA6.own wd5.heap.size (clv c) rfl hr6 rfl (clv_one c) (by have := Hl8.out; unfold maxLen; omega) (by have := Hl8.out; omega) (by have := hA6.size; have := Hbw.out; omega) ?_
    intro v7 x7 own7 hg7 hloc
    obtain ⟨A7, c7, rfl, _, _⟩ := own_slice own7
    refine wpList_nil (hQ2 _ _ ?_)
    have own7' := own7
    rw [← clsV_snoc, show l.length + 1 = (l ++ [c]).length by simp] at own7'
    have hA7 := hA6.app hg7 (lo' := l ++ [c]) own7' (by rw [show (l ++ [c]).length = l.length + 1 by simp]; exact hloc)
    refine hK.out _ _ hA7.box (fun hHeld => ?_)
    try clear hQ2
    clear hK K
    try simp only [Act.put, List.setIfInBounds_toArray, List.set_cons_zero, List.set_cons_succ]
    refine wpAnyH_take (i := 8) (oi := ⟨_, _, _, _, _, _⟩) (v := ?_) rfl (by kernel_rfl) (by kernel_rfl) (by kernel_rfl) (fun _ _ _ h => h) (Or.inl ⟨by rfl, ?_⟩) (by assumption) ?_
    rotate_left
    · intro W hSW; go_simp; try with_reducible rfl
    try simp only [Act.put, List.setIfInBounds_toArray, List.set_cons_zero, List.set_cons_succ]
    refine wpAnyH_take (i := 9) (oi := ⟨_, _, _, _, _, _⟩) (v := ?_) rfl (by kernel_rfl) (by kernel_rfl) (by kernel_rfl) (fun _ _ _ h => h) (Or.inl ⟨by rfl, ?_⟩) (by assumption) ?_
    rotate_left
    · intro W hSW; go_simp; try with_reducible rfl
    try simp only [Act.put, List.setIfInBounds_toArray, List.set_cons_zero, List.set_cons_succ]
    refine wpAnyH_ready (rs := [10]) (by kernel_rfl) (by simp) ?_
    refine AllReadyH.cons (o := ⟨_, _, _, _, _, _⟩) rfl (fun K hK => ?_) AllReadyH.nil
    refine step_of_list rfl (fun Q2 hQ2 => ?_)
    refine wpList_store_slot rfl 26 _ _ rfl g 0 rfl (.slice A7 (l.length + 1) c7) rfl rfl 60 _ hA7.row (by simp) (by kernel_rfl) ?_
    intro x8 hr8 hg8 hs8
    refine wpList_nil (hQ2 _ _ ?_)
    have hA8 := hA7.sto (v' := .slice A7 (l.length + 1) c7) hr8 hg8
    refine hK.out _ _ hA8.box (fun hHeld => ?_)
    try clear hQ2
    clear hK K
    try simp only [Act.put, List.setIfInBounds_toArray, List.set_cons_zero, List.set_cons_succ]
    refine wpAnyH_done (by kernel_rfl) ?_ _
    rw [show (l ++ [c]).length = l.length + 1 by simp] at hA8
    have HT : Hid (TurnedC w base L g (l ++ [c]) x8) := hA8.done (by rw [List.length_append, Hn.out]; rfl) (by rw [idxD_snoc, Hn.out]) Hok.out
    clear hA8 hA7 hA6 hA0 hr6 hb6 hg7 own7 own7' hloc hr8 hg8 hHeld
    go_wp2_with fail
    go_ret
    exact ⟨by rw [He.out]; rfl, by rw [He.out]; exact HT.out⟩
end Go.Proofs.Ytmcnhcbibcjgnaa
