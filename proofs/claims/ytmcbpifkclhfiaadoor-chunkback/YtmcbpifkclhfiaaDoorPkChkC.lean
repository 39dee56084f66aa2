/-
  Layer 13: the contract of Split.
-/
import Derived.Test.YtmcbpifkclhfiaaDoorPkChkL
import Derived.Test.YtmcbpifkclhfiaaDoorPkOfC
import Derived.Maps.AppendAt
namespace Go.Proofs.YtmcbpifkclhfiaaDoor
open Go.RowKit Go.Shelf
set_option linter.unusedVariables false
set_option linter.unusedSimpArgs false
attribute [local go_sem] Oper.semAt_some

theorem Tryd.infoB : (Tryd.prog.info? 22).map (fun i => (i.zero, i.size, i.bytes)) = some (some (.slice none 0 0), 1, 24) := by kernel_rfl

set_option maxRecDepth 100000 in
set_option maxHeartbeats 4000000 in
theorem ksplit_any (A0 : Option Addr) (n c0 : Nat) (b : List UInt8) (w : World) (B : Nat) (h : Lies w B A0 b) (hB : B ≤ w.heap.size) (hn : n = b.length) (hm : n ≤ 100000) :
    Calls Tryd.prog 7 #[.slice A0 n c0] w fun e w' => ∃ L ps cl, e = .returned (.slice L (countK n) cl) ∧ ps.map Piece.xs = chunksK b ∧ PartsAt w' w'.heap.size L ps ∧ countK n ≤ cl ∧ Below w.heap.size w w' := by
  obtain ⟨i0, hi, hz0, hz1, hz2⟩ := info_parts Tryd.infoB
  obtain ⟨m, hmm⟩ : ∃ m, countK n = m := ⟨_, rfl⟩
  have hmb : m ≤ 1000 := by rw [← hmm]; unfold countK; omega
  have hcnt := fun V : World => kcount_any (n : Int) V (by omega) (by omega)
  simp only [Int.toNat_natCast, hmm] at hcnt
  rw [hmm]
  have Hn := Lib.hid hn
  have H := Lib.hid h
  have Hm := Lib.hid hmm
  clear hn h hmm
  refine calls_of_wp_marks Tryd.func7 rfl ?_
  simp only [Tryd.ntmps7, List.size_toArray, List.length_cons, List.length_nil, Nat.reduceAdd, Nat.reduceSub, Array.replicate_succ, Array.replicate_zero, List.push_toArray, List.append_toArray, List.nil_append, List.cons_append]
  go_wp2_with fail
  refine (hcnt w).mono ?_
  rintro e w1 ⟨rfl, rfl⟩
  go_wp2_with (at_make; refine wpList_make_own _ rfl _ _ 24 rfl w.heap.size 22 i0 (.slice none 0 0) 1 Tryd.underlying24 hi hz0 hz1 _ _ _ m rfl rfl rfl (by rw [hz2]; omega) (by unfold maxLen; omega) (Nat.le_refl _) ?_)
  intro w2 hr2 hg2
  have hb2 : Below w.heap.size w w2 := ⟨hg2.os, hg2.tape, hg2.output, hg2.size, fun k hk => hg2.block k hk (by simp)⟩
  have hlt2 : w.heap.size < w2.heap.size := own_lt hr2 rfl
  obtain ⟨K, hK⟩ : ∃ K, w.heap.size = K := ⟨_, rfl⟩
  have hKw : K ≤ w.heap.size := by omega
  rw [hK] at hr2 hb2 hlt2 hB
  rw [hK]
  clear hg2
  go_wp2_with fail
  obtain ⟨w3, hw3⟩ : ∃ w3, w2.alloc (.cells #[.slice (some ⟨K, 0, none⟩) 0 m] 24) = w3 := ⟨_, rfl⟩
  obtain ⟨N, hN⟩ : ∃ N, w2.heap.size = N := ⟨_, rfl⟩
  have oN : One w3 N (.slice (some ⟨K, 0, none⟩) 0 m) 24 := by rw [← hw3, ← hN]; exact One.new w2 _ _
  have hr3 := hr2.alloc (.cells #[.slice (some ⟨K, 0, none⟩) 0 m] 24)
  have hb3 : Below K w w3 := by rw [← hw3]; exact hb2.alloc (by omega) _
  have hs3 : w3.heap.size = N + 1 := by rw [← hw3, ← hN]; simp
  rw [hw3] at hr3 ⊢
  rw [hN] at hlt2 ⊢
  clear hw3 hr2 hb2 hN
  refine (kall_any A0 n c0 b w3 B (H.out.below (hb3.mono hB)) (by omega) Hn.out hm).mono ?_
  rintro e w4 ⟨a, A, c, rfl, hT, hlt, hb4⟩
  have hs4 := hb4.size
  have o4 := oN.below hb4 oN.lt
  have hr4 := own_below hr3 hb4
  have hB4 : Below K w w4 := hb3.trans (hb4.mono (by omega))
  have hbl : ∀ k ∈ tblk a A, N < k := fun k hk => by have := hlt k hk; omega
  have htlt := hT.lt
  have Hml : Hid (countK b.length = m) := by show _ = _; rw [← Hn.out]; exact Hm.out
  have h0 : LoopK K N a A c b w4.heap.size 24 22 1 (fun x => [x.slc b.length]) w [] w4 := ⟨by rw [Hml.out]; exact o4, by rw [Hml.out]; exact hr4, (by simp), hT, hB4, Nat.le_refl _⟩
  clear oN hr3 hb3 hlt hb4 o4 hr4 hB4
  go_wp2_with fail
  refine wp_rangeFunc ?_
  refine range_tells (gf := 25) (lb := #[.pointer (some ⟨a, 0, none⟩)]) rfl (enters_of Tryd.func25 (by kernel_rfl) rfl)
    (kiter_tells a c w4.heap.size A b w4 hT (Nat.le_refl _)) (fun pre x V l o o' h hl ho => ⟨h.1, x.put V l o o' h.2 hl ho⟩) (fun h k => h.trans k) (KeepsS.put htlt) (fun _ => rfl)
    (fun pre V => LoopK K N a A c b w4.heap.size 24 22 1 (fun x => [x.slc b.length]) w pre V)
    (ownFrom_stays (fun s V V' h hs => h.stays (by omega) hKw hs))
    h0
    (fun x => { tmps := #[.slice A0 n c0, undef, .slice none 0 0, .pointer (some ⟨N, 0, none⟩), undef, x.slc b.length, .slice A0 n c0, .int .i64 (n : Int), .int .i64 (m : Int), .slice (some ⟨K, 0, none⟩) 0 m, .slice A0 n c0, .func (.func 25) #[] #[.pointer (some ⟨a, 0, none⟩)], .int .i64 (x.i : Int), x.slc b.length, undef, undef, undef, undef, undef], defers := [] }) ?assign ?body ?done
  case assign =>
    intro l x V Q hQ
    simp only [KEl.enc]
    gi_wp2
    exact hQ
  case body =>
    rintro l pre x V hP ⟨_, hx⟩ hpl
    have hcL := hP.box.cell
    have hfL := hP.box.free
    rw [Hml.out] at hpl
    have hrow := hP.row
    have hbx := hP.box
    rw [Hml.out] at hcL hrow hbx
    obtain ⟨q, hq⟩ : ∃ q, partK b.length x.i = q := ⟨_, rfl⟩
    have hsl : x.slc b.length = .slice x.A q x.c := by unfold KEl.slc; rw [hq]
    have hKV : K < V.heap.size := own_lt hrow rfl
    rw [hsl]
    have hc1 : ∀ (j : Nat) (u : Value), [Value.slice x.A q x.c][j]? = some u → (V.alloc (.cells #[.slice x.A q x.c] 22)).cell? ((⟨V.heap.size, 0, none⟩ : Addr).add j) = some u := cell_one_new _ _ _
    gi_wp2_with (gi_at_builtin; refine wpListIn_append_fits _ rfl _ _ 24 rfl K 22 i0 1 Tryd.underlying24 hi hz1 K pre.length m _ rfl (hrow.alloc _) ⟨V.heap.size, 0, none⟩ 1 1 [.slice x.A q x.c] rfl rfl hc1 (by simp [Value.oneCell']) (by omega) ?_; intro w6 hown6 hg6; rw [← hsl] at hown6; obtain ⟨o6, hk6, hs6, hL6⟩ := hP.store hx Hml.out hlt2 (by omega) hKw hbl ((Below.refl _ V).alloc (Nat.le_refl _) _) hg6 hown6; have hc6 := o6.cell; have hf6 := o6.free)
    exact ⟨hk6, hs6, hL6⟩
  case done =>
    rintro D ys V hD hS hP hDf
    have hlen : ys.length = m := by
      have := congrArg List.length hS
      rwa [List.length_map, List.length_range, Hml.out] at this
    have hcL := hP.box.cell
    have hsp := stays_put hD hDf (.deferred none)
    have hst := hP.stays (by omega) hKw hsp
    rw [Hml.out, hlen] at hcL
    go_wp2_with fail
    refine ⟨by simp, .inl ⟨_, _, rfl, run_takeDeferred hDf, ?_⟩⟩
    refine ⟨_, results_tmp rfl _ _ _, ?_⟩
    generalize V.putObj D (.deferred none) = V2 at *
    have hrow := hst.row
    rw [hlen, Hml.out] at hrow
    refine ⟨_, ys.map (fun x => ⟨x.A, partK b.length x.i, x.c, chunkK b x.i⟩), _, rfl, ?_, ⟨fun _ => ⟨K, 0, rfl, own_lt hrow rfl, ?_⟩, ?_⟩, Nat.le_refl _, by rw [hK]; exact hst.below⟩
    · rw [List.map_map]
      show ys.map (fun x => chunkK b x.i) = _
      rw [show (fun x : KEl => chunkK b x.i) = chunkK b ∘ KEl.i from rfl, ← List.map_map, show ys.map KEl.i = List.range (countK b.length) from hS]
      rfl
    · intro i p hp
      rw [List.getElem?_map, Option.map_eq_some_iff] at hp
      obtain ⟨x, hx, rfl⟩ := hp
      have hcs := hrow.cells (g := K) rfl i (x.slc b.length) (by rw [flatMap_one, List.getElem?_map, hx]; rfl)
      rw [Addr.add_lit] at hcs
      exact hcs
    · intro p hp
      rw [List.mem_map] at hp
      obtain ⟨x, hx, rfl⟩ := hp
      have hr := (hst.el x hx).2
      obtain ⟨A2, c2, hv2, h2, h3, h4, hl⟩ := Lies.of_own hr
      injection hv2 with e1 e2 e3
      subst e1 e3
      exact ⟨hl, h2, h3, h4⟩
end Go.Proofs.YtmcbpifkclhfiaaDoor
