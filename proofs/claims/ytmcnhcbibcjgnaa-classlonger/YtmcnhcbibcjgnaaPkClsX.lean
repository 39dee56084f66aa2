/-
  Layer 15: the law ClassLonger.
-/
import Derived.Test.YtmcnhcbibcjgnaaPkClsY
import Derived.BigQuiet
namespace Go.Proofs.Ytmcnhcbibcjgnaa
open Go.RowKit Go.Maps
set_option linter.unusedVariables false
set_option linter.unusedSimpArgs false

set_option maxRecDepth 100000 in
set_option maxHeartbeats 8000000 in
theorem longer15_law (HW : Works15) (w : World) (ax bx : List Act15) (A A' : Option Addr) (c c' : Nat) (h : LiesV w w.heap.size A (actsV ax)) (h' : LiesV w w.heap.size A' (actsV bx)) :
    Calls Try.prog 4 #[.slice A ax.length c, .slice A' bx.length c'] w fun e w' => e = .returned (.bool true) ∧ Below w.heap.size w w' := by
  have HA := Lib.hid h
  have HA' := Lib.hid h'
  have HWh := Lib.hid HW
  have hlA := clight_any w w.heap.size A ax.length c ax h rfl
  have hlB := clight_any w w.heap.size A' bx.length c' bx h' rfl
  obtain ⟨N, hN⟩ : ∃ N, w.heap.size = N := ⟨_, rfl⟩
  have HN := Lib.hid hN
  have HmA : Hid (lightC ax = true → Calls Try.prog 8 #[.slice A ax.length c] w (RetMade w (madeC [] ax))) := fun e => cmade_any w w.heap.size A ax.length c ax HA.out rfl (Nat.le_refl _) e
  obtain ⟨nb, hnb⟩ : ∃ nb, bx.length = nb := ⟨_, rfl⟩
  have Hnb := Lib.hid hnb
  obtain ⟨na, hna⟩ : ∃ na, ax.length = na := ⟨_, rfl⟩
  rw [hnb] at hlB ⊢
  rw [hna] at hlA HmA ⊢
  clear h h' HW hnb hna hN
  obtain ⟨la, hla⟩ : ∃ la, lightC ax = la := ⟨_, rfl⟩
  obtain ⟨lb, hlb⟩ : ∃ lb, lightC bx = lb := ⟨_, rfl⟩
  rw [hla] at hlA HmA
  rw [hlb] at hlB
  have Hlb := Lib.hid hlb
  clear hla hlb
  cases la
  · go_enter Try.func4, Try.ntmps4
    go_wp2_with fail
    refine hlA.mono ?_
    rintro e w1 ⟨rfl, rfl⟩
    go_wp2_with fail
    refine (HWh.out w).mono ?_
    rintro e w1 ⟨rfl, hb⟩
    go_wp2_with fail
    go_ret
    exact ⟨rfl, hb⟩
  cases lb
  · go_enter Try.func4, Try.ntmps4
    go_wp2_with fail
    refine hlA.mono ?_
    rintro e w1 ⟨rfl, rfl⟩
    go_wp2_with fail
    refine hlB.mono ?_
    rintro e w1 ⟨rfl, rfl⟩
    go_wp2_with fail
    refine (HWh.out w).mono ?_
    rintro e w1 ⟨rfl, hb⟩
    go_wp2_with fail
    go_ret
    exact ⟨rfl, hb⟩
  obtain ⟨hb40, hnm⟩ := lightC_iff.1 Hlb.out
  rw [Hnb.out] at hb40
  have Hnm := Lib.hid hnm
  clear hnm
  go_enter Try.func4, Try.ntmps4
  go_wp2_with fail
  refine hlA.mono ?_
  rintro e w1 ⟨rfl, rfl⟩
  go_wp2_with fail
  refine hlB.mono ?_
  rintro e w1 ⟨rfl, rfl⟩
  go_wp2_with fail
  refine (HmA.out (by trivial)).mono ?_
  rintro e w1 ⟨g, L0, v, rfl, hc1, hr1, hb1⟩
  obtain ⟨r, hr⟩ : ∃ r, madeC [] ax = r := ⟨_, rfl⟩
  rw [hr] at hc1 hr1
  rw [HN.out] at hc1 hb1
  obtain ⟨Ar, cr, rfl, hAr, hlr⟩ := hr1
  have HR1 : Hid (RwL w1 L0 (.slice Ar r.length cr) r) := ⟨Ar, cr, rfl, hAr, hlr⟩
  have HC1 : Hid (Cls w1 N L0 g (madeC r (bx.take 0))) := hc1
  have HB1 := Lib.hid hb1
  have hr8 := hc1.ok.len
  obtain ⟨n, hn⟩ : ∃ n, r.length = n := ⟨_, rfl⟩
  have Hn := Lib.hid hn
  rw [hn] at HR1 hr8 ⊢
  clear hlA hlB HmA hr hc1 hb1 hAr hlr hn
  go_wp2_with fail
  go_loopw [8] (fun v W => ∃ (k : Nat) (L : List Nat), k ≤ nb ∧ v = .int .i64 k ∧ Hid (Cls W N L g (madeC r (bx.take k))) ∧ Hid (RwL W L (.slice Ar n cr) r) ∧ Hid (Below N w W)) (fun v _ => nb - (intOf v).toNat)
  case atStart => exact ⟨0, L0, Nat.zero_le _, rfl, HC1, HR1, HB1⟩
  case round =>
    obtain ⟨k, L, hk, rfl, HC, HR, HB⟩ := hrel
    clear HC1 HR1 HB1
    by_cases hlt : k < nb
    · obtain ⟨a, ha⟩ : ∃ a, bx[k]? = some a := ⟨_, List.getElem?_eq_getElem (by rw [Hnb.out]; exact hlt)⟩
      have hlt' : (k : Int) < (nb : Int) := by omega
      have hk0 : (0 : Int) ≤ (k : Int) := by omega
      obtain ⟨b, o, hA1, hb, hrg⟩ := lies_act (HA'.out.below (HB.out.mono (by have := HN.out; omega))) ha
      have hbN : b < N := by have := HN.out; omega
      subst hA1
      have hck := ra_kind hrg
      have Hrg := Lib.hid hrg
      have hl100 := Hnm.out a (List.mem_of_getElem? ha)
      have Hmt := Lib.hid (madeC_take (l := r) ha)
      obtain ⟨l, hl⟩ : ∃ l, madeC r (bx.take k) = l := ⟨_, rfl⟩
      have hC := HC.out
      have hmt := Hmt.out
      rw [hl] at hC hmt
      have HC2 := Lib.hid hC
      have Hmt2 := Lib.hid hmt
      have hml : Hid (a.c.name.length ≤ maxLen) := by show _ ≤ _; unfold maxLen; omega
      clear ha hrg hC hmt Hmt HC hl hl100
      obtain ⟨q, hq⟩ : ∃ q, a.kind = q := ⟨_, rfl⟩
      rw [hq] at hck
      by_cases hq1 : q = 1
      · have Hst : Hid (stepC l a = longC l a.c.name a.c.period) := stepC_long (hq.trans hq1)
        clear hq
        subst hq1
        have r1 : Hid (wr.drew.rangeAt b (o + k * 5) (actV a)) := Hrg.out
        have n1 := rc_name (ra_cl Hrg.out)
        have p1 := rc_per (ra_cl Hrg.out)
        go_wp2_with fail
        refine wp_region_still_tail 13 (by kernel_rfl) (by kernel_rfl) ?_
        simp only [List.take_succ_cons, List.take_zero, List.drop_succ_cons, List.drop_zero]
        iterate 13 still_step
        refine wpStill_nil ?_
        change wpList _ _ _ _ _ wr.drew
        have hCd := Lib.hid HC2.out.drew
        have hRd := Lib.hid HR.out.drew
        have hBd : Hid (Below N w wr.drew) := HB.out.drew
        clear hck n1 p1 HC2 HR HB Hrg r1
        generalize wr.drew = we at *
        go_wp2_with fail
        refine (clonger_any we N g L l a.c.name a.c.period hCd.out hml.out).mono ?_
        rintro e w4 ⟨rfl, hT⟩
        obtain ⟨L', hc4, hb4, hL4⟩ := hT
        have hR4 := hRd.out.but hb4 hL4
        have hLN := fun j hj => (hCd.out.lt (k := j) hj).1
        have HB4 : Hid (Below N w w4) := hBd.out.trans ((hb4.less (by have := hBd.out.size; have := HN.out; omega)).below hLN)
        rw [← Hst.out] at hc4
        rw [← Hmt2.out] at hc4
        have HC4 := Lib.hid hc4
        have HR4 := Lib.hid hR4
        clear hc4 hb4 hL4 hR4 hLN hCd hRd hBd
        go_wp2_with fail
        go_roundw
        all_goals first
          | (simp [intOf]; omega)
          | exact ⟨k + 1, L', by omega, by go_num, HC4, HR4, HB4⟩
      · have Hst : Hid (stepC l a = addC l a.c) := stepC_add (fun e => hq1 (hq.symm.trans e))
        clear hq
        have hqb : (q == 1) = false := by rw [beq_eq_false_iff_ne]; exact hq1
        have hcl := ra_cl Hrg.out
        have hCd := HC2
        have hRd := HR
        have hBd := HB
        clear HC2 HR HB
        go_wp2_with ((with_reducible refine at_load 34 ?_); refine load_clM rfl _ rfl b (o + k * 5 + 1) rfl hcl ?_)
        refine (cadd_any wr N g L l a.c hCd.out hml.out).mono ?_
        rintro e w4 ⟨rfl, hT⟩
        clear hcl hck Hrg
        obtain ⟨L', hc4, hb4, hL4⟩ := hT
        have hR4 := hRd.out.but hb4 hL4
        have hLN := fun j hj => (hCd.out.lt (k := j) hj).1
        have HB4 : Hid (Below N w w4) := hBd.out.trans ((hb4.less (by have := hBd.out.size; have := HN.out; omega)).below hLN)
        rw [← Hst.out] at hc4
        rw [← Hmt2.out] at hc4
        have HC4 := Lib.hid hc4
        have HR4 := Lib.hid hR4
        clear hc4 hb4 hL4 hR4 hLN hCd hRd hBd
        go_wp2_with fail
        go_roundw
        all_goals first
          | (simp [intOf]; omega)
          | exact ⟨k + 1, L', by omega, by go_num, HC4, HR4, HB4⟩
    · obtain rfl : k = nb := by omega
      have hall : bx.take k = bx := List.take_of_length_le (by rw [Hnb.out]; exact Nat.le_refl _)
      rw [hall] at HC
      obtain ⟨f, hf⟩ : ∃ f, madeC r bx = f := ⟨_, rfl⟩
      have HS : Hid (Stays15 r f) := by show Stays15 _ _; rw [← hf]; exact madeC_stays r bx
      rw [hf] at HC
      clear hall hf
      go_wp2_with fail
      have HBr : Hid (Below wr.heap.size wr wr) := Below.refl _ _
      have hzN : N ≤ wr.heap.size := by have := HB.out.size; have := HN.out; omega
      obtain ⟨ws, hws⟩ : ∃ ws, wr = ws := ⟨_, rfl⟩
      rw [hws] at HC HR HB HBr hzN ⊢
      clear hws
      go_loopw [9] (fun v W => ∃ (i : Nat), i ≤ n ∧ v = .int .i64 i ∧ Hid (Below ws.heap.size ws W)) (fun v _ => n - (intOf v).toNat)
      case atStart => exact ⟨0, Nat.zero_le _, rfl, HBr⟩
      case round =>
        obtain ⟨i, hi, rfl, HB2⟩ := hrel
        clear HBr
        by_cases hlt2 : i < n
        · obtain ⟨x, hx⟩ : ∃ x, r[i]? = some x := ⟨_, List.getElem?_eq_getElem (by rw [Hn.out]; exact hlt2)⟩
          obtain ⟨y, hy, e1, e2, e3, e4⟩ := HS.out i x hx
          have hcw := HC.out.below HB2.out
          have hget := cget_any wr N g L f (i : Int) hcw
          rw [getC15_some hy] at hget
          have hlt3 : (i : Int) < (n : Int) := by omega
          have hi0 : (0 : Int) ≤ (i : Int) := by omega
          have HRw := Lib.hid (HR.out.below HB2.out)
          have Hx := Lib.hid hx
          have He1 := Lib.hid e1
          have He2 := Lib.hid e2
          have He3 := Lib.hid e3
          have he4 : decide (y.period < x.period) = false := by simp; omega
          clear hx hy hcw e1 e2 e3 e4
          go_wp2_with fail
          refine hget.mono ?_
          rintro e w5 ⟨rfl, hb5⟩
          have HR5 := Lib.hid (HRw.out.below hb5)
          have HB5 : Hid (Below ws.heap.size ws w5) := HB2.out.trans (hb5.mono HB2.out.size)
          clear hget hb5 HRw HB2
          simp only []
          go_wp2_with ((with_reducible refine at_alloc 34 ?_); refine alloc_cl rfl rfl ?_)
          intro w6 hr6 hb6 hs6
          have HR6 := Lib.hid (HR5.out.below hb6)
          have HB6 : Hid (Below ws.heap.size ws w6) := HB5.out.trans (hb6.mono HB5.out.size)
          obtain ⟨X, hX⟩ : ∃ X, w5.heap.size = X := ⟨_, rfl⟩
          have hXs : ws.heap.size ≤ X := by rw [← hX]; exact HB5.out.size
          have Hrb : Hid (∀ b o, Ar = some ⟨b, o, none⟩ → r ≠ [] → b < X) := fun b o e hne => by
            obtain ⟨A2, c2, hv, _, hl⟩ := HR5.out
            injection hv with e5
            obtain ⟨b2, o2, e6, e7, _⟩ := hl (fun e8 => hne (by have := congrArg List.length e8; rw [clsV_length] at this; exact List.eq_nil_of_length_eq_zero (by simp at this; omega)))
            rw [← e5, e] at e6
            injection e6 with e6
            injection e6 with e6
            omega
          rw [hX] at hr6 ⊢
          clear hb6 hs6 HR5 HB5 hX
          go_wp2_with ((with_reducible refine at_store 34 ?_); refine store_cl rfl _ _ rfl X y rfl rfl hr6 (clv_length _) ?_)
          intro w7 hr7 hg7 hs7
          obtain ⟨b, o, hA2, hb2, hrg⟩ := lies_cl (l := r) (A := Ar) (B := w6.heap.size) (by
            obtain ⟨A2, c2, hv, _, hl⟩ := HR6.out.rw
            injection hv with e5
            rw [e5]
            exact hl) Hx.out
          have hbX := Hrb.out b o hA2 (by rintro rfl; have := Hx.out; simp at this)
          subst hA2
          have hrg7 : w7.rangeAt b (o + i * 4) (clv x) := fun j u hj => (World.cell?_of_block (hg7.block b hb2 (fun e => by injection e with e; omega))).trans (hrg j u hj)
          have HB7 : Hid (Below ws.heap.size ws w7) := below_grown HB6.out hg7 hXs (by have := HB6.out.size; omega)
          have m0 := cl_name hr7
          have m1 := cl_per hr7
          have m2 := cl_ev hr7
          have m3 := cl_pr hr7
          rw [He1.out] at m0
          rw [He2.out] at m2
          rw [He3.out] at m3
          have n0 := rc_name hrg7
          have n1 := rc_per hrg7
          have n2 := rc_ev hrg7
          have n3 := rc_pr hrg7
          clear hr6 hr7 hg7 hs7 hrg hrg7 HR6 HB6 Hrb
          go_wp2_with fail
          go_quiet (fail)
          have HB8 : Hid (Below ws.heap.size ws (w7.drewN nq)) := below_drewN' HB7.out nq
          clear m0 m1 m2 m3 n0 n1 n2 n3 HB7
          generalize w7.drewN nq = wz at *
          go_wp2_with fail
          go_roundw
          all_goals first
            | (simp [intOf]; omega)
            | exact ⟨i + 1, by omega, by go_num, HB8⟩
        · obtain rfl : i = n := by omega
          go_wp2_with fail
          refine (HWh.out wr).mono ?_
          rintro e w9 ⟨rfl, hb⟩
          go_wp2_with fail
          go_ret
          exact ⟨rfl, by rw [HN.out]; exact HB.out.trans ((HB2.out.trans (hb.mono HB2.out.size)).mono hzN)⟩
end Go.Proofs.Ytmcnhcbibcjgnaa
