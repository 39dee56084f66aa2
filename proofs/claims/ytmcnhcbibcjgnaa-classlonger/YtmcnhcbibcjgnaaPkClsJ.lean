/-
  Layer 15: the contract of Read.
-/
import Derived.Test.YtmcnhcbibcjgnaaPkClsQ
import Derived.Test.YtmcnhcbibcjgnaaPkClsG
import Derived.Test.YtmcnhcbibcjgnaaPkClsI
import Derived.BigQuiet
import Derived.StillTailTactics
namespace Go.Proofs.Ytmcnhcbibcjgnaa
open Go.RowKit Go.Maps
set_option linter.unusedVariables false
set_option linter.unusedSimpArgs false

/-- The cursor, whose bytes do not lie in the set: they lie below it, and of what lies there the set holds its own block alone. -/
theorem Cur.set15 {w w' : World} {gc base g0 : Nat} {xs : List UInt8} {L : List Nat} {l : List Cl} (h : Cur w gc xs false) (hx : xs ≠ []) (hS : Cls w base L g0 l) (hL : ∀ j ∈ L, j = g0 ∨ gc < j) (h0 : g0 ≠ gc) (hb : But L w.heap.size w w') : Cur w' gc xs false := by
  have hlt := h.lt
  obtain ⟨A, c, hg, h1, h2, hl⟩ := h
  have hgL : gc ∉ L := fun e => by rcases hL gc e with h | h; exact h0 h.symm; omega
  refine ⟨A, c, (hb.block gc hlt hgL).trans hg, h1, h2, fun _ => ?_⟩
  obtain ⟨b, o, hA, hbg, hc⟩ := hl hx
  have hb0 : b ≠ g0 := by
    rintro rfl
    obtain ⟨vs, mp, hS, _⟩ := hS
    obtain ⟨A', c', hv, _, _⟩ := own_slice hS.own
    have hr := hS.row
    rw [hv] at hr
    obtain ⟨y, hy⟩ : ∃ y, xs[0]? = some y := ⟨_, List.getElem?_eq_getElem (List.length_pos_iff.2 hx)⟩
    have hc0 := hc 0 y hy
    rw [Nat.add_zero, cell_of_row w b o _ _ _ hr] at hc0
    match o, hc0 with
    | 0, hc0 => simp at hc0
    | 1, hc0 => simp at hc0
    | o + 2, hc0 => simp at hc0
  have hbL : b ∉ L := fun e => by rcases hL b e with h | h; exact hb0 h; omega
  exact ⟨b, o, hA, hbg, fun i y hi => (World.cell?_of_block (hb.block b (by omega) hbL)).trans (hc i y hi)⟩

/-- What Read answers: the set whose sector it is, or none. -/
def ReadP15 (w : World) (x : Sec) (e : Ending) (w' : World) : Prop :=
  Below w.heap.size w w' ∧ ((∃ l g L, SetOk l ∧ clsS l = x ∧ e = .returned (.tuple #[.pointer (some ⟨g, 0, none⟩), .int .i64 0]) ∧ Cls w' w.heap.size L g l) ∨ ((∀ m, SetOk m → clsS m ≠ x) ∧ e = .returned (.tuple #[.pointer none, .int .i64 5])))

set_option maxRecDepth 100000 in
set_option maxHeartbeats 4000000 in
theorem cread_any (w : World) (x : Sec) : Calls Try.prog 20 #[.agg x.cs.toArray] w (ReadP15 w x) := by
  have hsl : ∀ W g, (Instr.sliceAt 48 (.pointer (some ⟨g, 0, none⟩)) none none none).run Try.prog W = .ok (.slice (some ⟨g, 0, none⟩) 256 256) W := fun W g => run_slice_arr_all Try.underlying48 Try.size1 g
  go_enter Try.func20, Try.ntmps20
  go_wp2_with ((with_reducible refine at_box 48 ?_); refine wpList_box_rowV rfl 48 _ rfl x.cs rfl ?_)
  intro w1 hr1 hb1 hs1
  obtain ⟨N, hN⟩ : ∃ N, w.heap.size = N := ⟨_, rfl⟩
  have HN := Lib.hid hN
  have HB1 := Lib.hid hb1
  rw [hN] at hr1 hs1 ⊢
  clear hb1 hN
  go_wp2_with fail
  refine (cnew_any w1).mono ?_
  rintro e w2 ⟨rfl, hc2, hb2⟩
  rw [hs1] at hc2 hb2 ⊢
  have hr2 := hr1.below (by omega) hb2
  have hz2 : N + 1 < w2.heap.size := by have := hc2.lt (k := N + 1) (by simp); omega
  have hlx : Lies w2 w2.heap.size (some ⟨N, 0, none⟩) x.1 := by
    have : Row w2 N 48 x.1 := hr2
    exact this.lies
  go_wp2_with fail
  refine (from_any _ 256 _ x.1 w2 hlx x.2.symm (by omega)).mono ?_
  rintro e w3 ⟨gc, rfl, hgc, hcur, hb3⟩
  have hr3 := hr2.below (by omega) hb3
  have hc3 := hc2.below hb3
  have HB3 : Hid (Below (N + 1) w1 w3) := hb2.trans (hb3.mono (by omega))
  have hz3 := hcur.lt
  have hgcN : N + 1 < gc := by omega
  clear hr1 hr2 hb2 hb3 hc2 hlx hgc hz2
  obtain ⟨x0, hx0⟩ : ∃ x0, x.1[0]? = some x0 := ⟨_, List.getElem?_eq_getElem (by rw [x.2]; omega)⟩
  obtain ⟨cnt, hcnt⟩ : ∃ cnt, (x.1.getD 0 0).toNat = cnt := ⟨_, rfl⟩
  have hx0c : x0.toNat = cnt := by rw [← hcnt, List.getD_eq_getElem?_getD, hx0]; rfl
  have hc256 : cnt < 256 := by rw [← hx0c]; exact x0.toNat_lt
  have hnum := num_yes w3 gc x.1 1 hcur (by rw [x.2]; omega) (by omega) (by rw [x.2]; omega)
  have ht1 := take1_of hx0
  rw [List.drop_zero] at ht1
  have e1 : leN [x0] = cnt := by rw [← hx0c]; simp [leN]
  rw [ht1, e1] at hnum
  have Hcnt := Lib.hid hcnt
  clear hx0 hx0c ht1 e1 hcnt hcur
  go_wp2_with fail
  refine Calls.mono hnum ?_
  rintro e w4 ⟨rfl, hcur4, hg4⟩
  have hne : (some gc : Option Nat) ≠ some N := fun e => by injection e with e; omega
  have HR4 := Lib.hid (hr3.keep hg4 hne)
  have hbt4 : But [gc] w3.heap.size w3 w4 := (But.refl _ _ _).grown hg4 (fun k e => by injection e with e; subst e; left; simp) (Nat.le_refl _)
  have HC4 : Hid (Cls w4 (N + 1) [N + 1] (N + 1) []) := hc3.but hbt4 (fun k hk => ⟨(hc3.lt hk).2, by simp at hk ⊢; omega⟩)
  have HB4 : Hid (Below (N + 1) w1 w4) := below_grown HB3.out hg4 (by omega) (by omega)
  have HK4 : Hid (Cur w4 gc (x.1.drop (1 + 23 * 0)) false) := hcur4
  clear hnum hcur4 hg4 hr3 hbt4 hc3 HB3 hz3
  go_wp2_with fail
  go_loopw [11] (fun v W => ∃ (k : Nat) (L : List Nat) (l : List Cl), k ≤ cnt ∧ v = .int .u64 k ∧ Hid (Cls W (N + 1) L (N + 1) l) ∧ Hid (l.length = k) ∧ Hid (∀ j ∈ L, j = N + 1 ∨ gc < j) ∧ Hid (Cur W gc (x.1.drop (1 + 23 * k)) false) ∧ Hid (∀ m, SetOk m → clsS m = x → l = m.take k) ∧ Hid (RowV W N 48 x.cs) ∧ Hid (Below (N + 1) w1 W)) (fun v _ => cnt - (intOf v).toNat)
  case atStart => exact ⟨0, [N + 1], [], Nat.zero_le _, rfl, HC4, rfl, fun j hj => .inl (by simpa using hj), HK4, fun m _ _ => by simp, HR4, HB4⟩
  case round =>
    obtain ⟨k, L, l, hk, rfl, HC, Hln, HL, HK, Hm, HR, HB⟩ := hrel
    clear HC4 HK4 HR4 HB4
    by_cases hlt : k < cnt
    · have hk8 : k ≤ 8 := by rw [← Hln.out]; exact HC.out.ok.len
      obtain ⟨xs, hxs⟩ : ∃ xs, x.1.drop (1 + 23 * k) = xs := ⟨_, rfl⟩
      have hxl : xs.length = 255 - 23 * k := by rw [← hxs, List.length_drop, x.2]; omega
      have hx23 : 23 ≤ xs.length := by omega
      have hxm : xs.length ≤ 1000000 := by omega
      have hk2 := HK.out
      rw [hxs] at hk2
      have Hxs := Lib.hid hxs
      have Hx23 := Lib.hid hx23
      have Hst : Hid (∀ m, SetOk m → clsS m = x → l ++ [fldC xs] = m.take (k + 1) ∧ (addC l (fldC xs)).2 = 0) := by
        have := read_step (x := x) (l := l) (k := k) (by rw [Hcnt.out]; exact hlt) Hm.out
        rw [hxs] at this
        exact this
      clear hxs hxl HK Hm
      go_wp2_with fail
      refine (cfields_any wr gc xs hk2 hx23 hxm).mono ?_
      rintro e w5 ⟨rfl, hg5, hcur5⟩
      have hgl := hk2.lt
      have hbt5 : But [gc] wr.heap.size wr w5 := (But.refl _ _ _).grown hg5 (fun k e => by injection e with e; subst e; left; simp) (Nat.le_refl _)
      have hc5 := HC.out.but hbt5 (fun j hj => ⟨(HC.out.lt hj).2, by have := HL.out j hj; simp; omega⟩)
      have HR5 := Lib.hid (HR.out.keep hg5 hne)
      have HB5 : Hid (Below (N + 1) w1 w5) := below_grown HB.out hg5 (by omega) (by omega)
      have Hcur5 := Lib.hid hcur5
      have hgl5 : gc < w5.heap.size := by have := hg5.size; omega
      have Hc5 := Lib.hid hc5
      have hadd := cadd_any w5 (N + 1) (N + 1) L l (fldC xs) hc5 (by have := fldC_name xs; unfold maxLen; omega)
      obtain ⟨C, hC⟩ : ∃ C, fldC xs = C := ⟨_, rfl⟩
      have HCe := Lib.hid hC
      have hst := Hst.out
      rw [hC] at hadd hst ⊢
      obtain ⟨code, hcode⟩ : ∃ code, (addC l C).2 = code := ⟨_, rfl⟩
      rw [hcode] at hadd hst
      have Hcode := Lib.hid hcode
      have Hst2 := Lib.hid hst
      clear hg5 hcur5 hk2 hbt5 hc5 HC HR HB hst Hst hC hcode hx23 hxm
      go_wp2_with fail
      refine hadd.mono ?_
      rintro e w6 ⟨rfl, hT⟩
      have HT := Lib.hid hT
      clear hadd hT
      by_cases h0 : code = 0
      · subst h0
        obtain ⟨hadd2, hok⟩ := addC_zero Hcode.out
        have hT := HT.out
        rw [hadd2] at hT
        obtain ⟨L', hc6, hb6, hL'⟩ := hT
        have hx0 : xs ≠ [] := by intro e; have := Hx23.out; rw [e] at this; simp at this
        have hunp : unpadO (xs.take 16) ≠ none := fldC_unpad (by rw [HCe.out]; exact hok)
        have hne23 : xs.drop 23 = x.1.drop (1 + 23 * (k + 1)) := by rw [← Hxs.out, List.drop_drop]; congr 1
        have hkc := Hcur5.out hunp
        rw [hne23] at hkc
        have hxn : x.1.drop (1 + 23 * (k + 1)) ≠ [] := by intro e; have := congrArg List.length e; rw [List.length_drop, x.2] at this; simp at this; omega
        have HK6 := Lib.hid (hkc.set15 hxn Hc5.out HL.out (by omega) hb6)
        have HC6 := Lib.hid hc6
        have HL6 : Hid (∀ j ∈ L', j = N + 1 ∨ gc < j) := fun j hj => by rcases hL' j hj with h | h; exact HL.out j h; right; omega
        have HNL : Hid (N ∉ L) := fun e => by have := (Hc5.out.lt e).1; omega
        have HR6 := Lib.hid (rowV_but HR5.out hb6 HR5.out.lt HNL.out)
        have HB6 : Hid (Below (N + 1) w1 w6) := HB5.out.trans ((hb6.less (by omega)).below (fun j hj => (Hc5.out.lt hj).1))
        have Hl6 : Hid ((l ++ [C]).length = k + 1) := by show _ = _; rw [List.length_append, Hln.out]; rfl
        have Hm6 : Hid (∀ m, SetOk m → clsS m = x → l ++ [C] = m.take (k + 1)) := fun m h1 h2 => (Hst2.out m h1 h2).1
        have hku : ((k : Int) + 1) % 18446744073709551616 = (k : Int) + 1 := by omega
        clear hb6 hc6 hL' hkc hne23 hxn hunp hadd2 hok HT hx0
        go_wp2_with fail
        go_roundw
        all_goals first
          | (simp [intOf]; omega)
          | exact ⟨k + 1, L', l ++ [C], by omega, by go_num, HC6, Hl6, HL6, HK6, Hm6, HR6, HB6⟩
      · have Hno : Hid (∀ m, SetOk m → clsS m ≠ x) := fun m h1 h2 => h0 (Hst2.out m h1 h2).2
        have HB6 : Hid (Below (N + 1) w1 w6) := by
          obtain ⟨L', _, hb6, _⟩ := HT.out
          exact HB5.out.trans ((hb6.less (by omega)).below (fun j hj => (Hc5.out.lt hj).1))
        go_wp2_with fail
        go_ret2
        exact ⟨HB1.out.trans (HB6.out.mono (by have := HN.out; omega)), .inr ⟨Hno.out, rfl⟩⟩
    · obtain rfl : k = cnt := by omega
      have Hall : Hid (∀ m, SetOk m → clsS m = x → l = m) := read_end (by rw [Hcnt.out]; exact Hm.out)
      clear Hm HK
      go_wp2_with fail
      have hC : Cls wr.drew (N + 1) L (N + 1) l := HC.out.drew
      have hR : RowV wr.drew N 48 x.cs := HR.out
      have hBd : Below (N + 1) w1 wr.drew := HB.out.drew
      clear HC HR HB
      refine wp_region_held_drew (S := fun W => Below wr.drew.heap.size wr.drew W) (by kernel_rfl) (Below.refl _ _) (fun hHeld => ?_)
      generalize wr.drew = wd at *
      have hSc : Below wd.heap.size wd wd := Below.refl _ _
      have hRl := hR.lt
      obtain ⟨b, hbq⟩ : ∃ b, decide (clsS l = x) = b := ⟨_, rfl⟩
      have Hb := Lib.hid hbq
      clear hbq
      refine wpAnyH_take (i := 0) (oi := ⟨_, _, _, _, _, _⟩) (v := ?_) rfl (by kernel_rfl) (by kernel_rfl) (by kernel_rfl) (fun _ _ _ h => h) (Or.inl ⟨by rfl, ?_⟩) (by assumption) ?_
      rotate_left
      · intro W hSW; go_simp; try with_reducible rfl
      try simp only [Act.put, List.setIfInBounds_toArray, List.set_cons_zero, List.set_cons_succ]
      refine wpAnyH_take (i := 2) (oi := ⟨_, _, _, _, _, _⟩) (v := ?_) rfl (by kernel_rfl) (by kernel_rfl) (by kernel_rfl) (fun _ _ _ h => h) (Or.inl ⟨by rfl, ?_⟩) (by assumption) ?_
      rotate_left
      · intro W hSW; refine exec_load_row 48 (.tmp 1) ?_ N ?_ _ (hR.below hRl hSW) Try.underlying48 rfl (sec_size _) <;> rfl
      try simp only [Act.put, List.setIfInBounds_toArray, List.set_cons_zero, List.set_cons_succ]
      refine wpAnyH_ready (rs := [1]) (by kernel_rfl) (by simp) ?_
      refine AllReadyH.cons (o := ⟨_, _, _, _, _, _⟩) rfl (fun K hK => ?_) AllReadyH.nil
      go_simp
      refine (cput_any wd (N + 1) (N + 1) L l hC).mono ?_
      rintro e x1 ⟨rfl, hb⟩
      try simp only []
      have hSx1 := hSc.trans (hb.mono hSc.size)
      refine hK.out _ _ hSx1 (fun hHeld => ?_)
      clear hK K hb hSc
      have hSc := hSx1
      clear hSx1
      try simp only [Act.put, List.setIfInBounds_toArray, List.set_cons_zero, List.set_cons_succ]
      refine wpAnyH_take (i := 3) (oi := ⟨_, _, _, _, _, _⟩) (v := .bool (!b)) rfl (by kernel_rfl) (by kernel_rfl) (by kernel_rfl) (fun _ _ _ h => h) (Or.inl ⟨by rfl, ?_⟩) (by assumption) ?_
      · intro W hSW; rw [exec_neq_sec (.tmp 20) (.tmp 21) _ (by rfl) (clsS l) x (by rfl) (by rfl), Hb.out]
      try simp only [Act.put, List.setIfInBounds_toArray, List.set_cons_zero, List.set_cons_succ]
      refine wpAnyH_done (by kernel_rfl) ?_ _
      have HC1 := Lib.hid (hC.below hSc)
      have HB9 : Hid (Below (N + 1) w1 x1) := hBd.trans (hSc.mono (by have := hBd.size; omega))
      clear hC hR hBd hSc hHeld
      cases b
      · have Hno : Hid (∀ m, SetOk m → clsS m ≠ x) := fun m h1 h2 => by
          have e := Hall.out m h1 h2
          have := Hb.out
          rw [e, decide_eq_true h2] at this
          cases this
        go_wp2_with fail
        go_ret2
        exact ⟨HB1.out.trans (HB9.out.mono (by have := HN.out; omega)), .inr ⟨Hno.out, rfl⟩⟩
      · have Hyes : Hid (clsS l = x) := by show _ = _; exact of_decide_eq_true Hb.out
        go_wp2_with fail
        go_ret2
        exact ⟨HB1.out.trans (HB9.out.mono (by have := HN.out; omega)), .inl ⟨l, N + 1, L, HC1.out.ok, Hyes.out, rfl, HC1.out.lower (by have := HN.out; omega)⟩⟩
end Go.Proofs.Ytmcnhcbibcjgnaa
