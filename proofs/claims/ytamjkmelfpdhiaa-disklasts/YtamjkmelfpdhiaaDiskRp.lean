/-
  Layer 6: the contract of the reference's Put.
-/
import Derived.Test.YtamjkmelfpdhiaaDiskRy
namespace Go.Proofs.Ytamjkmelfpdhiaa
open Go.RowKit Go.Maps
set_option linter.unusedVariables false

theorem Try.zeroW6 : (Try.prog.info? 70).bind (·.zero) = some (.agg (Value.int .i64 0 :: zeroSec.cs).toArray) := by kernel_rfl
theorem Try.infoW6 : (Try.prog.info? 70).map (fun i => (i.zero, i.size, i.bytes)) = some (some (.agg (Value.int .i64 0 :: zeroSec.cs).toArray), 257, 264) := by kernel_rfl
theorem built70 (x : Int) (s : Sec) : Try.prog.built 70 [(0, .int .i64 x), (1, .agg s.cs.toArray)] = some (Value.int .i64 x :: s.cs).toArray := built_chg Try.zeroW6 Try.underlying70 (by kernel_rfl) x s
theorem zc_size : (Value.agg (Value.int .i64 0 :: zeroSec.cs).toArray).cells.size = 257 := by rw [show (Value.agg (Value.int .i64 0 :: zeroSec.cs).toArray).cells = (Value.int .i64 0 :: zeroSec.cs).toArray from rfl, List.size_toArray, List.length_cons, Sec.cs_length]
theorem at_buildSlice {P : Program} {w : World} {ops : Array Oper} {rest : List Oper} {a : Act} {Q : Exit → Act → World → Prop} {d : Option Tmp} {n : Nat} {x : Array (Nat × Operand)} {u : TypeId} {p : String} {af : Array Edge} (ty : TypeId)
    (h : wpList P ops Q (⟨d, .buildSlice ty n x, u, p, af, none⟩ :: rest) a w) : wpList P ops Q (⟨d, .buildSlice ty n x, u, p, af, none⟩ :: rest) a w := h
theorem wpList_buildSlice_oneV {P : Program} {w : World} {ops : Array Oper} {rest : List Oper} {o : Oper} {a : Act} {Q : Exit → Act → World → Prop} (hgd : o.guard = none) (t e : TypeId) (x : Operand) (ho : o.op = .buildSlice t 1 #[(0, x)]) (cs : List Value) (hx : a.eval x = .agg cs.toArray)
    (hu : P.underlying t = some (.slice e)) {z : Value} {size bytes : Nat} (hi : (P.info? e).map (fun i => (i.zero, i.size, i.bytes)) = some (some z, size, bytes)) (hl : cs.length = size) (h0 : 0 < size) (h1 : size ≤ 16777216)
    (h : ∀ w', RowV w' w.heap.size e cs → Below w.heap.size w w' → w'.heap.size = w.heap.size + 1 → wpList P ops Q rest (a.put o.dst (.slice (some ⟨w.heap.size, 0, none⟩) 1 1)) w') : wpList P ops Q (o :: rest) a w :=
  wpList_plain hgd fun _ hK => wp_buildSlice_one t e x ho cs hx hu hi hl h0 h1 (hK _ _ (h _ (RowV.new w e cs) ((Below.refl _ _).alloc (Nat.le_refl _) _) (by simp)))

set_option maxRecDepth 100000 in
set_option maxHeartbeats 8000000 in
theorem rput_any (w : World) (base : Nat) (vl vw : Value) (d : Dk) (x : Int) (s : Sec) (hk : d.Ok) (hw : d.wait.length < 1000000) (hb : base ≤ w.heap.size) (h : Ref w base vl vw d) :
    Calls Try.prog 25 #[.agg (rc vl vw d).toArray, .int .i64 x, s.val] w fun e w' => ∃ vl' vw', e = .returned (.tuple #[.agg (rc vl' vw' (d.write x s).1).toArray, .int .i64 (d.write x s).2]) ∧ Ref w' base vl' vw' (d.write x s).1 ∧ Below w.heap.size w w' ∧ Newer w vl vl' ∧ Newer w vw vw' := by
  have o1 := own_one h.last
  have o2 := own_one h.wait
  obtain ⟨gl, cl, hvl, _, _, _, hgl⟩ := own_form h.last hk.pos
  obtain ⟨Aw, cw, hvw, _, _⟩ := own_slice h.wait
  have Hvl := Lib.hid hvl
  have Hvw := Lib.hid hvw
  have HR := Lib.hid h
  have Hk := Lib.hid hk
  clear hvl hvw h hk
  generalize hnd : d.dur.length = Nd at *
  have Hnd := Lib.hid hnd
  clear hnd
  cases hh : d.has x
  · have Hv : Hid (d.write x s = (d, 2)) := by show _ = _; simp [Dk.write, hh]
    have hx : x < 0 ∨ (Nd : Int) ≤ x := by
      simp [Dk.has, Hnd.out] at hh
      omega
    go_enter Try.func25, Try.ntmps25
    go_wp2_with ((with_reducible refine at_box 32 ?_); refine wpList_box_rowV rfl 32 _ rfl (rc vl vw d) rfl ?_)
    intro w1 hr1 hb1 hs1
    go_wp2_with ((with_reducible refine at_box 43 ?_); refine wpList_box_rowV rfl 43 _ rfl s.cs rfl ?_)
    intro w2 hr2 hb2 hs2
    go_wp2_with ((with_reducible refine at_alloc 32 ?_); refine wpList_alloc_rowV rfl 32 rfl rc0 Try.zeroR ?_)
    intro w3 hr3 hb3 hs3
    have hr13 := (hr1.below (by omega) hb2).below (by omega) hb3
    have hr23 := hr2.below (by omega) hb3
    have hB3 : Below w.heap.size w w3 := hb1.trans ((hb2.mono (by omega)).trans (hb3.mono (by omega)))
    have hlt1 : w.heap.size < w.heap.size + 1 := by omega
    have hlt2 : w.heap.size + 1 < w.heap.size + 1 + 1 := by omega
    have hsz3 : w.heap.size + 1 + 1 < w3.heap.size := by omega
    have c0 := hr13.cell (i := 0) rfl
    rw [Hvl.out] at c0
    clear hr1 hb1 hs1 hr2 hb2 hs2 hb3 hs3
    generalize hN2 : w.heap.size + 1 + 1 = N2 at *
    generalize hN1 : w.heap.size + 1 = N1 at *
    clear hN2 hN1
    go_wp2_with (first
      | ((with_reducible refine at_load 32 ?_); refine wpList_load_row rfl 32 _ rfl (w.heap.size) rfl 32 (rc vl vw d).toArray (0, 0) _ hr13 Try.underlying32 rfl (rc_size _ rfl) ?_)
      | ((with_reducible refine at_store 32 ?_); refine wpList_store_rowV rfl 32 _ _ rfl (N2) (rc vl vw d) rfl rfl 32 (rc0) hr3 (rc_size _ rfl) rfl (rc_all o1 o2) ?_))
    all_goals first | (exfalso; omega) | skip
    all_goals
      intro w9 hr9 hg9 hs9
      go_wp2_with fail
      have hB9 := below_grown hB3 hg9 (by omega) hB3.size
      refine bodyPost_ret (results_cell_tmp (fn := Try.f25) rfl _ _ N2 32 _ (0, 0) _ rfl (.int .i64 2) rfl hr9 Try.underlying32 rfl (rc_size _ rfl)) rfl ⟨vl, vw, by rw [Hv.out], ?_, hB9, Newer.refl _ _, Newer.refl _ _⟩
      rw [Hv.out]
      exact HR.out.below hB9
  · have hx : 0 ≤ x ∧ x < d.dur.length := by simpa [Dk.has] using hh
    rw [Hnd.out] at hx
    obtain ⟨i, rfl⟩ := Int.eq_ofNat_of_zero_le hx.1
    have hi : i < Nd := by omega
    have hi' : (i : Int) < (Nd : Int) := by omega
    have hi0 : (0 : Int) ≤ (i : Int) := by omega
    clear hx
    go_enter Try.func25, Try.ntmps25
    go_wp2_with ((with_reducible refine at_box 32 ?_); refine wpList_box_rowV rfl 32 _ rfl (rc vl vw d) rfl ?_)
    intro w1 hr1 hb1 hs1
    go_wp2_with ((with_reducible refine at_box 43 ?_); refine wpList_box_rowV rfl 43 _ rfl s.cs rfl ?_)
    intro w2 hr2 hb2 hs2
    go_wp2_with ((with_reducible refine at_alloc 32 ?_); refine wpList_alloc_rowV rfl 32 rfl rc0 Try.zeroR ?_)
    intro w3 hr3 hb3 hs3
    have hr13 := (hr1.below (by omega) hb2).below (by omega) hb3
    have hr23 := hr2.below (by omega) hb3
    have hB3 : Below w.heap.size w w3 := hb1.trans ((hb2.mono (by omega)).trans (hb3.mono (by omega)))
    have hlt1 : w.heap.size < w.heap.size + 1 := by omega
    have hlt2 : w.heap.size + 1 < w.heap.size + 1 + 1 := by omega
    have hsz3 : w.heap.size + 1 + 1 < w3.heap.size := by omega
    have c0 := hr13.cell (i := 0) rfl
    rw [Hvl.out] at c0
    clear hr1 hb1 hs1 hr2 hb2 hs2 hb3 hs3
    generalize hN2 : w.heap.size + 1 + 1 = N2 at *
    generalize hN1 : w.heap.size + 1 = N1 at *
    clear hN2 hN1
    go_wp2_with ((with_reducible refine at_load 32 ?_); refine wpList_load_row rfl 32 _ rfl (w.heap.size) rfl 32 (rc vl vw d).toArray (0, 0) _ hr13 Try.underlying32 rfl (rc_size _ rfl) ?_)
    refine (rstep_any w3 vl vw d o1 o2 Hk.out.steps Hk.out.fuse).mono ?_
    rintro e w4 ⟨rfl, hb4⟩
    have hr14 := hr13.below (by omega) hb4
    have hr24 := hr23.below (by omega) hb4
    have hr34 := hr3.below (by omega) hb4
    have hB4 : Below w.heap.size w w4 := hB3.trans (hb4.mono (by omega))
    have hsz4 : N2 < w4.heap.size := by have := hb4.size; omega
    clear hr13 hr23 hr3 hB3 hb4 hsz3 c0
    cases hdd : d.dead
    · have Hv : Hid (d.write (i : Int) s = ({ d.stepped with wait := d.wait ++ [(i, s)] }, 0)) := by show _ = _; simp [Dk.write, hh, hdd]
      have Hdd := Lib.hid hdd
      go_wp2_with ((with_reducible refine at_alloc 32 ?_); refine wpList_alloc_rowV rfl 32 rfl rc0 Try.zeroR ?_)
      intro w5 hr5 hb5 hs5
      have hr15 := hr14.below (by omega) hb5
      have hr25 := hr24.below (by omega) hb5
      have hr35 := hr34.below (by omega) hb5
      have hB5 : Below w.heap.size w w5 := hB4.trans (hb5.mono (by omega))
      generalize hN3 : w4.heap.size = N3 at *
      go_wp2_with ((with_reducible refine at_store 32 ?_); refine wpList_store_rowV rfl 32 _ _ rfl (N3) (rc vl vw d.stepped) rfl rfl 32 (rc0) hr5 (rc_size _ rfl) rfl (rc_all o1 o2) ?_)
      intro w6 hr6 hg6 hs6
      have hr16 := hr15.keep hg6 (by intro e; injection e with e; omega)
      have hr26 := hr25.keep hg6 (by intro e; injection e with e; omega)
      have hr36 := hr35.keep hg6 (by intro e; injection e with e; omega)
      have hB6 : Below w.heap.size w w6 := below_grown hB5 hg6 (by omega) hB5.size
      have hsz6 : N3 + 1 ≤ w6.heap.size := by omega
      have f1 := hr6.free 1
      have g1 := hr6.cell (i := 1) rfl
      have c1 := hr16.cell (i := 1) rfl
      rw [Hvw.out] at c1 g1
      have hg7 := gset (i := 1) (World.grownBy.refl w6 (some N3)) (.slice none 0 0)
      have hr7 := hr6.setCell 1 (.slice none 0 0)
      have hr17 := hr16.keep hg7 (by intro e; injection e with e; omega)
      have hr27 := hr26.keep hg7 (by intro e; injection e with e; omega)
      have hr37 := hr36.keep hg7 (by intro e; injection e with e; omega)
      have hB7 := below_grown hB6 hg7 (by omega) hB6.size
      have hsz7 : N3 + 1 ≤ (w6.setCell ⟨N3, 1, none⟩ (.slice none 0 0)).heap.size := by have := hg7.size; omega
      have hw7 := (HR.out.below hB7).wait
      rw [Hvw.out] at hw7
      have Hw7 := Lib.hid hw7
      have Hchg := Lib.hid (chgs_one d.wait)
      clear hw7 hr14 hr24 hr34 hB4 hb5 hr15 hr25 hr35 hB5 hg6 hr16 hr26 hr36 hB6 hr6 hr5 hg7
      generalize hn : d.wait.length = n at *
      have Hn := Lib.hid hn
      clear hn hdd
      go_wp2_with (at_builtin; refine wpList_append_rows rfl _ _ 30 rfl (N3 + 1) 70 Try.underlying30 Try.infoW6 zc_size (by decide) (.slice none 0 0) 0 [] rfl (World.ownsRow_nil _ _ _ _) (.slice Aw n cw) base n (chgs d.wait) rfl Hw7.out Hchg.out (by unfold maxLen; omega) (by omega) hsz7 ?_)
      intro v1 w8 ho8 hg8 hl8
      try simp only [Nat.zero_add, List.nil_append] at ho8
      obtain ⟨A1, c1', rfl, _, _⟩ := own_slice ho8
      have hr8 := hr7.keep hg8 (by intro e; cases e)
      have hr18 := hr17.keep hg8 (by intro e; cases e)
      have hr28 := hr27.keep hg8 (by intro e; cases e)
      have hr38 := hr37.keep hg8 (by intro e; cases e)
      have hB8 : Below w.heap.size w w8 := hB7.trans ⟨hg8.os, hg8.tape, hg8.output, hg8.size, fun k hk => hg8.block k (by omega) (by intro e; cases e)⟩
      have hsz8 : N3 + 1 ≤ w8.heap.size := by have := hg8.size; omega
      have f8 := hr8.free 1
      have g8 := hr8.cell (i := 1) rfl
      have hg9 := gset (i := 1) (World.grownBy.refl w8 (some N3)) (.slice A1 n c1')
      have hr9 := hr8.setCell 1 (.slice A1 n c1')
      have hr29 := hr28.keep hg9 (by intro e; injection e with e; omega)
      have hr39 := hr38.keep hg9 (by intro e; injection e with e; omega)
      have hB9 := below_grown hB8 hg9 (by omega) hB8.size
      have ho9 := ho8.kept hg9 (.inr (by intro e; have := (ho8.lt _ e).1; omega))
      have hsz9 : N3 + 1 ≤ (w8.setCell ⟨N3, 1, none⟩ (.slice A1 n c1')).heap.size := by have := hg9.size; omega
      clear hr7 hr17 hr27 hr37 hB7 hsz7 hg8 hl8 hr8 hr18 hr28 hr38 hB8 ho8 hg9 f1 g1 c1 Hw7
      go_wp2_with (first
        | ((with_reducible refine at_load 43 ?_); refine wpList_load_row rfl 43 _ rfl (N1) rfl 43 (s.cs).toArray (0, 0) _ hr29 Try.underlying43 rfl (sec_size' _) ?_)
        | ((with_reducible refine at_build 70 ?_); refine wpList_build_to rfl 70 _ rfl (Value.int .i64 (i : Int) :: s.cs) (by rw [Array.toList_map]; exact built70 (i : Int) s) ?_)
        | ((with_reducible refine at_buildSlice 30 ?_); refine wpList_buildSlice_oneV rfl 30 70 _ rfl (Value.int .i64 (i : Int) :: s.cs) rfl Try.underlying30 Try.infoW6 (by rw [List.length_cons, Sec.cs_length]) (by decide) (by decide) ?_))
      intro wa hra hba hsa
      have hba : Below (w8.setCell ⟨N3, 1, none⟩ (.slice A1 n c1')).heap.size (w8.setCell ⟨N3, 1, none⟩ (.slice A1 n c1')) wa := by simpa using hba
      have ho9a := own_below ho9 hba
      have hr9a := hr9.below (by omega) hba
      have hr39a := hr39.below (by omega) hba
      have hB9a : Below w.heap.size w wa := hB9.trans (hba.mono hB9.size)
      have hsza : N3 + 1 ≤ wa.heap.size := by have := hba.size; omega
      have hnew : ∀ j u, (Value.int .i64 (i : Int) :: s.cs)[j]? = some u → wa.cell? ((⟨w8.heap.size, 0, none⟩ : Addr).add j) = some u := by
        intro j u hj
        rw [Addr.add_lit, Nat.zero_add]
        have hra' : RowV wa w8.heap.size 70 (Value.int .i64 (i : Int) :: s.cs) := by simpa using hra
        exact hra'.cell hj
      have Hnew := Lib.hid hnew
      have H1c := Lib.hid (Chg.one (i, s))
      obtain ⟨i0, hii, hz0, hz1, hz2⟩ := info_parts Try.infoW6
      clear hnew hra
      go_wp2_with (at_builtin; refine wpList_append_own_at _ rfl _ _ 30 rfl (N3 + 1) 70 i0 _ 257 _ Try.underlying30 hii hz0 hz1 hz2 zc_size (by decide) (.slice A1 n c1') n (chgs d.wait) rfl ho9a ⟨w8.heap.size, 0, none⟩ 1 1 (Value.int .i64 (i : Int) :: s.cs) rfl (by rw [List.length_cons, Sec.cs_length]) Hnew.out H1c.out (by unfold maxLen; omega) (by omega) hsza ?_)
      intro v2 wb hob hgb _ hlb
      obtain ⟨A2, c2, rfl, _, _⟩ := own_slice hob
      have hkb : ∀ k, (Value.slice A1 n c1').ownBlock = some k → N3 + 1 ≤ k := fun k hk => (ho9a.lt k hk).1
      have hrb := hr9a.keep hgb (by intro e; have := hkb _ e; omega)
      have hr3b := hr39a.keep hgb (by intro e; have := hkb _ e; omega)
      have hBb : Below w.heap.size w wb := hB9a.trans ⟨hgb.os, hgb.tape, hgb.output, hgb.size, fun k hk => hgb.block k (by omega) (by intro e; have := hkb _ e.symm; omega)⟩
      have fb := hrb.free 1
      have gb := hrb.cell (i := 1) rfl
      have hgc := gset (i := 1) (World.grownBy.refl wb (some N3)) (.slice A2 (n + 1) c2)
      have hrc := hrb.setCell 1 (.slice A2 (n + 1) c2)
      have hr3c := hr3b.keep hgc (by intro e; injection e with e; omega)
      have hBc := below_grown hBb hgc (by omega) hBb.size
      have hoc := hob.kept hgc (.inr (by intro e; have := (hob.lt _ e).1; omega))
      have ov : (Value.slice A2 (n + 1) c2).oneCell' = true := rfl
      clear ho9a hr9a hr39a hB9a hob hgb hlb hrb hr3b hBb hgc
      go_wp2_with (first
        | ((with_reducible refine at_load 32 ?_); refine wpList_load_row rfl 32 _ rfl (N3) rfl 32 ([vl, .slice A2 (n + 1) c2, .int .i64 (d.stepped.steps : Int), .int .i64 d.stepped.fuseI, .bool d.stepped.down]).toArray (0, 0) _ hrc Try.underlying32 rfl (rc_size _ rfl) ?_)
        | ((with_reducible refine at_store 32 ?_); refine wpList_store_rowV rfl 32 _ _ rfl (N2) ([vl, .slice A2 (n + 1) c2, .int .i64 (d.stepped.steps : Int), .int .i64 d.stepped.fuseI, .bool d.stepped.down]) rfl rfl 32 (rc0) hr3c (rc_size _ rfl) rfl (rc_all o1 rfl) ?_))
      intro wd hrd hgd hsd
      go_wp2_with fail
      have hBd := below_grown hBc hgd (by omega) hBc.size
      have hod := hoc.kept hgd (.inr (by intro e; have := (hoc.lt _ e).1; omega))
      refine bodyPost_ret (results_cell_tmp (fn := Try.f25) rfl _ _ N2 32 _ (0, 0) _ rfl (.int .i64 0) rfl hrd Try.underlying32 rfl (rc_size _ rfl)) rfl ⟨vl, .slice A2 (n + 1) c2, by rw [Hv.out]; rfl, ?_, hBd, Newer.refl _ _, Newer.of_own hod (by omega)⟩
      rw [Hv.out]
      refine ⟨?_, ?_⟩
      · show World.ownsRow _ _ _ _ _ d.stepped.dur.length (secs d.stepped.dur)
        rw [stepped_dur]
        exact (HR.out.below hBd).last
      · show World.ownsRow _ _ _ _ _ (d.wait ++ [(i, s)]).length (chgs (d.wait ++ [(i, s)]))
        rw [List.length_append, chgs_snoc, Hn.out]
        exact own_rebase hod fun k hk => by have := (hod.lt k hk).1; omega
    · have Hv : Hid (d.write (i : Int) s = (d.stepped, 4)) := by show _ = _; simp [Dk.write, hh, hdd]
      go_wp2_with ((with_reducible refine at_alloc 32 ?_); refine wpList_alloc_rowV rfl 32 rfl rc0 Try.zeroR ?_)
      intro w5 hr5 hb5 hs5
      have hr35 := hr34.below (by omega) hb5
      have hB5 : Below w.heap.size w w5 := hB4.trans (hb5.mono (by omega))
      generalize hN3 : w4.heap.size = N3 at *
      go_wp2_with ((with_reducible refine at_store 32 ?_); refine wpList_store_rowV rfl 32 _ _ rfl (N3) (rc vl vw d.stepped) rfl rfl 32 (rc0) hr5 (rc_size _ rfl) rfl (rc_all o1 o2) ?_)
      intro w6 hr6 hg6 hs6
      have hr36 := hr35.keep hg6 (by intro e; injection e with e; omega)
      have hB6 : Below w.heap.size w w6 := below_grown hB5 hg6 (by omega) hB5.size
      go_wp2_with (first
        | ((with_reducible refine at_load 32 ?_); refine wpList_load_row rfl 32 _ rfl (N3) rfl 32 (rc vl vw d.stepped).toArray (0, 0) _ hr6 Try.underlying32 rfl (rc_size _ rfl) ?_)
        | ((with_reducible refine at_store 32 ?_); refine wpList_store_rowV rfl 32 _ _ rfl (N2) (rc vl vw d.stepped) rfl rfl 32 (rc0) hr36 (rc_size _ rfl) rfl (rc_all o1 o2) ?_))
      intro w9 hr9 hg9 hs9
      go_wp2_with fail
      have hB9 := below_grown hB6 hg9 (by omega) hB6.size
      refine bodyPost_ret (results_cell_tmp (fn := Try.f25) rfl _ _ N2 32 _ (0, 0) _ rfl (.int .i64 4) rfl hr9 Try.underlying32 rfl (rc_size _ rfl)) rfl ⟨vl, vw, by rw [Hv.out], ?_, hB9, Newer.refl _ _, Newer.refl _ _⟩
      rw [Hv.out]
      exact (HR.out.below hB9).stepped
end Go.Proofs.Ytamjkmelfpdhiaa
