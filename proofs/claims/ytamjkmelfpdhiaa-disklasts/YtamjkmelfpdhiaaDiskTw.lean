/-
  Layer 6: the contracts of the copies: Image, Pending, Twin.
-/
import Derived.Test.YtamjkmelfpdhiaaDiskCr
import Derived.Laws.Externs
namespace Go.Proofs.Ytamjkmelfpdhiaa
open Go.RowKit Go.Maps
set_option linter.unusedVariables false

set_option maxRecDepth 100000 in
set_option maxHeartbeats 2000000 in
theorem clone_secs (w : World) (base : Nat) (v : Value) (n : Nat) (xs : List Value) (h : w.ownsRow base 43 256 v n xs) (h1 : ∀ u ∈ xs, u.oneCell' = true) (hn : n ≤ 1000000) :
    Calls Try.prog 34 #[v] w fun r w' => ∃ v', r = .returned v' ∧ w'.ownsRow w.heap.size 43 256 v' n xs ∧ Below w.heap.size w w' := by
  rcases h.2 with ⟨rfl, rfl⟩ | ⟨g, cap, cur, rfl, hb, hg, hnc, hm, _, _⟩
  · have hq := fun W => eql_slice_nil (P := Try.prog) W none 0 0 Try.underlying29
    go_enter Try.func34, Try.ntmps34
    go_wp2_with fail
    go_ret
    have hx : xs = [] := List.eq_nil_of_length_eq_zero (by simpa using h.1)
    subst hx
    exact ⟨_, rfl, World.ownsRow_nil _ _ _ _, Below.refl _ _⟩
  · have Hl := Lib.hid h.1
    have Hc := Lib.hid (fun (w1 : World) (hb1 : Below w.heap.size w w1) => fun j u (hj : xs[j]? = some u) => ((hb1.cell (p := (⟨g, 0, none⟩ : Addr).add j) (by rw [Addr.add_lit]; exact (Array.getElem?_eq_some_iff.1 hg).1)).trans (h.cells (g := g) rfl j u hj)))
    have H1 := Lib.hid h1
    clear h h1 hg
    obtain ⟨i0, hi, hz0, hz1, hz2⟩ := info_parts Try.infoS
    have hbs : ∀ W, (Instr.buildSlice 29 0 #[]).run Try.prog W = .ok (.slice (some ⟨W.heap.size, 0, none⟩) 0 0) (W.alloc (.cells #[] 43)) := by
      intro W
      simp [Instr.buildSlice, run_underlying Try.underlying29, sizeOf, typeInfo, hi, Instr.fill, newRow]
      congr 2
      exact Array.eq_empty_of_size_eq_zero (by simp)
    have hq := fun W => eql_slice_nil (P := Try.prog) W (some ⟨g, 0, none⟩) n cap Try.underlying29
    go_enter Try.func34, Try.ntmps34
    go_wp2_with (at_builtin; refine wpList_append_own _ rfl _ _ 29 rfl w.heap.size 43 i0 _ 256 _ Try.underlying29 hi hz0 hz1 hz2 (by rw [show zeroSec.val.cells = zeroSec.cs.toArray from rfl, List.size_toArray, Sec.cs_length]) (by decide) _ 0 [] rfl (World.ownsRow_made (e := 43) (size := 256) w #[] 0 (Nat.le_refl _) (by simp) (by simp)) ⟨g, 0, none⟩ n cap xs rfl Hl.out (Hc.out _ ((Below.refl _ _).alloc (Nat.le_refl _) _)) H1.out (by unfold maxLen; omega) (by omega) (by simp) ?_; intro v' w' hown hgr hnil)
    go_ret
    refine ⟨_, rfl, by simpa using hown, ?_⟩
    exact ⟨hgr.os, hgr.tape, hgr.output, Nat.le_trans (by simp) hgr.size, fun k hk => (hgr.block k (by rw [World.size_alloc]; omega) (fun e => by have e' : k = w.heap.size := Option.some.inj e; omega)).trans (Below.heap_alloc _ _ _ hk)⟩

set_option maxRecDepth 100000 in
set_option maxHeartbeats 2000000 in
theorem clone_chgs (w : World) (base : Nat) (v : Value) (n : Nat) (xs : List Value) (h : w.ownsRow base 72 257 v n xs) (h1 : ∀ u ∈ xs, u.oneCell' = true) (hn : n ≤ 1000000) :
    Calls Try.prog 35 #[v] w fun r w' => ∃ v', r = .returned v' ∧ w'.ownsRow w.heap.size 72 257 v' n xs ∧ Below w.heap.size w w' := by
  rcases h.2 with ⟨rfl, rfl⟩ | ⟨g, cap, cur, rfl, hb, hg, hnc, hm, _, _⟩
  · have hq := fun W => eql_slice_nil (P := Try.prog) W none 0 0 Try.underlying59
    go_enter Try.func35, Try.ntmps35
    go_wp2_with fail
    go_ret
    have hx : xs = [] := List.eq_nil_of_length_eq_zero (by simpa using h.1)
    subst hx
    exact ⟨_, rfl, World.ownsRow_nil _ _ _ _, Below.refl _ _⟩
  · have Hl := Lib.hid h.1
    have Hc := Lib.hid (fun (w1 : World) (hb1 : Below w.heap.size w w1) => fun j u (hj : xs[j]? = some u) => ((hb1.cell (p := (⟨g, 0, none⟩ : Addr).add j) (by rw [Addr.add_lit]; exact (Array.getElem?_eq_some_iff.1 hg).1)).trans (h.cells (g := g) rfl j u hj)))
    have H1 := Lib.hid h1
    clear h h1 hg
    obtain ⟨i0, hi, hz0, hz1, hz2⟩ := info_parts Try.infoC
    have hbs : ∀ W, (Instr.buildSlice 59 0 #[]).run Try.prog W = .ok (.slice (some ⟨W.heap.size, 0, none⟩) 0 0) (W.alloc (.cells #[] 72)) := by
      intro W
      simp [Instr.buildSlice, run_underlying Try.underlying59, sizeOf, typeInfo, hi, Instr.fill, newRow]
      congr 2
      exact Array.eq_empty_of_size_eq_zero (by simp)
    have hq := fun W => eql_slice_nil (P := Try.prog) W (some ⟨g, 0, none⟩) n cap Try.underlying59
    go_enter Try.func35, Try.ntmps35
    go_wp2_with (at_builtin; refine wpList_append_own _ rfl _ _ 59 rfl w.heap.size 72 i0 _ 257 _ Try.underlying59 hi hz0 hz1 hz2 (by rw [show (Value.agg (Value.int .i64 0 :: zeroSec.cs).toArray).cells = (Value.int .i64 0 :: zeroSec.cs).toArray from rfl, List.size_toArray, List.length_cons, Sec.cs_length]) (by decide) _ 0 [] rfl (World.ownsRow_made (e := 72) (size := 257) w #[] 0 (Nat.le_refl _) (by simp) (by simp)) ⟨g, 0, none⟩ n cap xs rfl Hl.out (Hc.out _ ((Below.refl _ _).alloc (Nat.le_refl _) _)) H1.out (by unfold maxLen; omega) (by omega) (by simp) ?_; intro v' w' hown hgr hnil)
    go_ret
    refine ⟨_, rfl, by simpa using hown, ?_⟩
    exact ⟨hgr.os, hgr.tape, hgr.output, Nat.le_trans (by simp) hgr.size, fun k hk => (hgr.block k (by rw [World.size_alloc]; omega) (fun e => by have e' : k = w.heap.size := Option.some.inj e; omega)).trans (Below.heap_alloc _ _ _ hk)⟩

set_option maxRecDepth 100000 in
set_option maxHeartbeats 2000000 in
theorem clone_map (w : World) (b n : Nat) (D : DataW Unit) (h : w.ownsMap Try.prog 3 (plainElem (H := Unit) Try.prog 3) b n D) :
    Calls Try.prog 36 #[.map (some b)] w fun r w' => r = .returned (.map (some w.heap.size)) ∧ w'.ownsMap Try.prog 3 (plainElem (H := Unit) Try.prog 3) w.heap.size n D ∧ Below w.heap.size w w' ∧ w'.heap.size = w.heap.size + 1 := by
  obtain ⟨es, clock, hb, F, hs, hD⟩ := h
  have hq := fun W => eql_map_nil (P := Try.prog) W (some b) Try.underlying58
  have hcl : (Extern.MapsClone.clone #[.iface 58 (.map (some b))]).run Try.prog w = .ok (.iface 58 (.map (some w.heap.size))) (w.alloc (.map es clock)) := by
    have e : Extern.MapsClone.clone #[.iface 58 (.map (some b))] = (getObj b >>= fun o => match o with
      | .map entries clock => (newObj (.map entries clock) >>= fun n => pure (.iface 58 (.map (some n))))
      | _ => stuck "maps.clone: a map expected") := rfl
    rw [e]
    simp [Go.MapKept.run_getObj_map hb, Result.andThen, go_sem]
  have hta : ∀ (W : World) (v : Value), (Instr.typeAssert (.iface 58 v) 20 58 false).run Try.prog W = .ok v W := by
    intro W v
    simp [Instr.typeAssert, run_underlying Try.underlying58, go_sem, Result.andThen]
  go_enter Try.func36, Try.ntmps36
  go_wp2_with fail
  rw [run_callFunc_extern Try.func39 (by kernel_rfl) (by kernel_rfl) (by kernel_rfl) (e := Extern.MapsClone.clone) (by kernel_rfl), hcl]
  simp only [Result.andThen]
  rw [Oper.upon_value]
  go_wp2_with fail
  go_ret
  exact ⟨rfl, ⟨es, clock, (MapKept.heap_alloc w _).1, F, hs, hD⟩, (Below.refl _ _).alloc (Nat.le_refl _) _, by simp⟩

set_option maxRecDepth 100000 in
set_option maxHeartbeats 2000000 in
theorem dimage_any (w : World) (base g bm : Nat) (vd vw : Value) (d : Dk) (hk : d.Ok) (h : DiskAt w base g vd vw bm d) :
    Calls Try.prog 17 #[.pointer (some ⟨g, 0, none⟩)] w fun e w' => ∃ v', e = .returned v' ∧ w'.ownsRow w.heap.size 43 256 v' d.dur.length (secs d.dur) ∧ Below w.heap.size w w' := by
  have h0 := h.c0
  go_enter Try.func17, Try.ntmps17
  go_wp2_with fail
  refine (clone_secs w base vd _ _ h.dur (secs_one _) (by have := hk.dur; omega)).mono ?_
  rintro e w1 ⟨v', rfl, h1, h2⟩
  go_wp2_with fail
  go_ret
  exact ⟨v', rfl, h1, h2⟩

theorem Try.zeroD : (Try.prog.info? 61).bind (·.zero) = some (.agg [Value.slice none 0 0, .slice none 0 0, .map none, .int .i64 0, .int .i64 0, .bool false, .bool false].toArray) := by kernel_rfl
theorem Try.sizeD : (Try.prog.info? 61).map (·.size) = some 7 := by kernel_rfl

set_option maxRecDepth 100000 in
set_option maxHeartbeats 4000000 in
theorem dtwin_any (w : World) (base g : Nat) (L : List Nat) (d : Dk) (hk : d.Ok) (h : Disk w base L g d) :
    Calls Try.prog 19 #[.pointer (some ⟨g, 0, none⟩)] w fun e w' => ∃ g' L', e = .returned (.pointer (some ⟨g', 0, none⟩)) ∧ Disk w' w.heap.size L' g' d ∧ Below w.heap.size w w' := by
  obtain ⟨vd, vw, bm, h, rfl⟩ := h
  have Hk := Lib.hid hk
  have HD := Lib.hid h
  obtain ⟨Ad, cd, hvd, _, _⟩ := own_slice h.dur
  obtain ⟨Aw, cw, hvw, _, _⟩ := own_slice h.wait
  have hrow := h.row
  have Hone : Hid ((dcells vd vw bm d).toArray.all (·.oneCell') = true) := by show _ = _; subst hvd hvw; simp [dcells, Value.oneCell']
  clear h hk
  have Hvd := Lib.hid hvd
  have Hvw := Lib.hid hvw
  clear hvd hvw
  generalize hcs : dcells vd vw bm d = cs at hrow Hone
  have Hl : Hid ((Try.prog.info? 61).map (·.size) = some cs.toArray.size) := by show _ = _; rw [← hcs]; exact Try.sizeD
  have Hl7 : Hid ([Value.slice none 0 0, .slice none 0 0, .map none, .int .i64 0, .int .i64 0, .bool false, .bool false].toArray.size = cs.toArray.size) := by show _ = _; rw [← hcs]; rfl
  have HcsE := Lib.hid hcs
  clear hcs
  go_enter Try.func19, Try.ntmps19
  go_wp2_with (first
    | ((with_reducible refine at_load 61 ?_); refine wpList_load_row rfl 61 _ rfl g rfl 61 cs.toArray (0, 0) _ hrow Try.underlying61 rfl Hl.out ?_)
    | ((with_reducible refine at_alloc 61 ?_); refine wpList_alloc_rowV rfl 61 rfl _ Try.zeroD ?_; intro w1 hr1 hb1 hs1)
    | ((with_reducible refine at_store 61 ?_); refine wpList_store_row rfl 61 _ _ rfl w.heap.size cs.toArray rfl rfl 61 _ hr1 Hl.out Hl7.out Hone.out ?_; have hb2 := below_put hb1 (Nat.le_refl _) cs.toArray; have hr2 := hr1.put cs; have hs2 : (w1.setRow w.heap.size cs.toArray).heap.size = w.heap.size + 1 := (by rw [setRow_size]; exact hs1); generalize w1.setRow w.heap.size cs.toArray = w2 at *; have c0 := (HD.out.below hb2).c0))
  have HD2 := Lib.hid (HD.out.below hb2)
  refine (clone_secs w2 base vd _ _ HD2.out.dur (secs_one _) (by have := Hk.out.dur; omega)).mono ?_
  rintro e w3 ⟨v1, rfl, ho1, hb3⟩
  obtain ⟨A1, c1, rfl, _, _⟩ := own_slice ho1
  have hr3 := hr2.below (by omega) hb3
  have hf3 := hr3.free 0
  have hc3 := hr3.cell (i := 0) (by rw [← HcsE.out]; rfl)
  have hb3' : Below w.heap.size w w3 := hb2.trans (hb3.mono (by omega))
  have hs3 : w.heap.size + 1 ≤ w3.heap.size := by have := hb3.size; omega
  have c1' := (HD.out.below hb3').c1
  have hr4 := hr3.setCell 0 (.slice A1 d.dur.length c1)
  have hg4 : w3.grownBy (w3.setCell ⟨w.heap.size, 0, none⟩ (.slice A1 d.dur.length c1)) (some w.heap.size) := gset (World.grownBy.refl _ _) _
  have ho1' : w3.ownsRow (w.heap.size + 1) 43 256 (.slice A1 d.dur.length c1) d.dur.length (secs d.dur) := by rw [← hs2]; exact ho1
  have ho4 := ho1'.kept hg4 (.inr (fun e => by have := (ho1'.lt _ e).1; omega))
  have hb4 : Below w.heap.size w (w3.setCell ⟨w.heap.size, 0, none⟩ (.slice A1 d.dur.length c1)) := hb3'.setCell (Nat.le_refl _) _
  have hs4 : w.heap.size + 1 ≤ (w3.setCell ⟨w.heap.size, 0, none⟩ (.slice A1 d.dur.length c1)).heap.size := by have := hg4.size; omega
  clear hr1 hb1 hs1 hr2 hb2 HD2 c0 hb3 hr3 hb3' ho1 ho1' hg4 hs2
  go_wp2_with fail
  clear c1' hf3 hc3
  generalize w3.setCell ⟨w.heap.size, 0, none⟩ (.slice A1 d.dur.length c1) = w4 at *
  have HD4 := Lib.hid (HD.out.below hb4)
  refine (clone_chgs w4 base vw _ _ HD4.out.wait (chgs_one _) (by have := Hk.out.wait; omega)).mono ?_
  rintro e w5 ⟨v2, rfl, ho2, hb5⟩
  obtain ⟨A2, c2, rfl, _, _⟩ := own_slice ho2
  have hr5 := hr4.below (by omega) hb5
  have hf5 := hr5.free 1
  have hc5 := hr5.cell (i := 1) (by rw [← HcsE.out]; rfl)
  have hb5' : Below w.heap.size w w5 := hb4.trans (hb5.mono (by omega))
  have hs5 : w.heap.size + 1 ≤ w5.heap.size := by have := hb5.size; omega
  have c2' := (HD.out.below hb5').c2
  have hr6 := hr5.setCell 1 (.slice A2 d.wait.length c2)
  have hg6 : w5.grownBy (w5.setCell ⟨w.heap.size, 1, none⟩ (.slice A2 d.wait.length c2)) (some w.heap.size) := gset (World.grownBy.refl _ _) _
  have ho5 := own_below ho4 hb5
  have ho5' := ho5.kept hg6 (.inr (fun e => by have := (ho5.lt _ e).1; omega))
  have ho6' : w5.ownsRow (w.heap.size + 1) 72 257 (.slice A2 d.wait.length c2) d.wait.length (chgs d.wait) := own_rebase ho2 fun k hk => by have := (ho2.lt _ hk).1; omega
  have ho6 := ho6'.kept hg6 (.inr (fun e => by have := (ho6'.lt _ e).1; omega))
  have hb6 : Below w.heap.size w (w5.setCell ⟨w.heap.size, 1, none⟩ (.slice A2 d.wait.length c2)) := hb5'.setCell (Nat.le_refl _) _
  have hs6 : w.heap.size + 1 ≤ (w5.setCell ⟨w.heap.size, 1, none⟩ (.slice A2 d.wait.length c2)).heap.size := by have := hg6.size; omega
  clear hr4 hb4 hs4 ho4 ho2 hb5 hr5 hb5' ho5 ho6' hg6
  go_wp2_with fail
  clear c2' hf5 hc5
  generalize w5.setCell ⟨w.heap.size, 1, none⟩ (.slice A2 d.wait.length c2) = w6 at *
  have HD6 := Lib.hid (HD.out.below hb6)
  refine (clone_map w6 bm _ _ HD6.out.map).mono ?_
  rintro e w7 ⟨rfl, hm7, hb7, hs7⟩
  have hr7 := hr6.below (by omega) hb7
  have hf7 := hr7.free 2
  have hc7 := hr7.cell (i := 2) (by rw [← HcsE.out]; rfl)
  go_wp2_with fail
  go_ret
  have hb7' : Below w.heap.size w w7 := hb6.trans (hb7.mono (by omega))
  have hg8 : w7.grownBy (w7.setCell ⟨w.heap.size, 2, none⟩ (.map (some w6.heap.size))) (some w.heap.size) := gset (World.grownBy.refl _ _) _
  have ho5b := own_below ho5' hb7
  have ho6b := own_below ho6 hb7
  refine ⟨w.heap.size, _, rfl, ⟨.slice A1 d.dur.length c1, .slice A2 d.wait.length c2, w6.heap.size, ⟨?_, ?_, ?_, ?_, Nat.le_refl _, by omega⟩, rfl⟩, hb7'.setCell (Nat.le_refl _) _⟩
  · have := hr7.setCell 2 (.map (some w6.heap.size))
    rw [← HcsE.out] at this
    exact this
  · exact own_rebase (ho5b.kept hg8 (.inr (fun e => by have := (ho5b.lt _ e).1; omega))) fun k hk => by have := (ho5b.lt _ hk).1; omega
  · exact own_rebase (ho6b.kept hg8 (.inr (fun e => by have := (ho6b.lt _ e).1; omega))) fun k hk => by have := (ho6b.lt _ hk).1; omega
  · exact hm7.setCell (by show w6.heap.size ≠ w.heap.size; omega) _
end Go.Proofs.Ytamjkmelfpdhiaa
