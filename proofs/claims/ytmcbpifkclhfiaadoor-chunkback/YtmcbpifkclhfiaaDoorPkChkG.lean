/-
  Layer 13: the contract of the reference's Join.
-/
import Derived.Test.YtmcbpifkclhfiaaDoorPkChkF
import Derived.Test.YtmcbpifkclhfiaaDoorPkRSame
namespace Go.Proofs.YtmcbpifkclhfiaaDoor
open Go.RowKit
set_option linter.unusedVariables false

theorem byte_taken {xs : List UInt8} {k : Nat} {y : UInt8} (h : xs[k]? = some y) : xs.take (k + 1) = xs.take k ++ [y] := by
  rw [List.take_add_one, h]
  rfl

set_option maxRecDepth 100000 in
set_option maxHeartbeats 4000000 in
theorem rjoin_any (s : Int) (L : Option Addr) (n c : Nat) (l : List Sec) (w : World) (B : Nat) (h : LiesV w B L (secs l)) (hB : B ≤ w.heap.size) (hn : n = l.length) (hm : n ≤ 9223372036854775807) (h1 : -9223372036854775808 ≤ s) (h2 : s ≤ 9223372036854775807) :
    Calls Tryd.prog 23 #[.int .i64 s, .slice L n c] w (RetJoin w s l) := by
  have Hn := Lib.hid hn
  have H := Lib.hid h
  clear hn h
  by_cases hs1 : s < 1
  · have HJ := Lib.hid (RetJoin.nil_ (w := w) (joinC_size (s := s) (l := l) (.inl hs1)))
    go_enter Tryd.func23, Tryd.ntmps23
    go_wp2_with fail
    refine bodyPost_ret (results_tmp2 rfl _ _ _) rfl ?_
    exact HJ.out
  by_cases hs2 : 2048 < s
  · have HJ := Lib.hid (RetJoin.nil_ (w := w) (joinC_size (s := s) (l := l) (.inr hs2)))
    go_enter Tryd.func23, Tryd.ntmps23
    go_wp2_with fail
    refine bodyPost_ret (results_tmp2 rfl _ _ _) rfl ?_
    exact HJ.out
  obtain ⟨S, hS⟩ : ∃ S : Nat, s = S := ⟨s.toNat, by omega⟩
  subst hS
  have hno : ¬ ((S : Int) < 1 ∨ 2048 < (S : Int)) := by omega
  have hdv : ((S : Int) + 255).tdiv 256 = ((countK S : Nat) : Int) := by rw [Int.tdiv_eq_ediv_of_nonneg (by omega)]; unfold countK; omega
  have hdv2 : ((S : Int) + 255) / 256 = ((countK S : Nat) : Int) := by unfold countK; omega
  by_cases hl : n = countK S
  · have Hl : Hid (l.length = countK ((S : Int)).toNat) := by show _ = _; rw [← Hn.out, Int.toNat_natCast]; exact hl
    have hl8 : n ≤ 8 := by rw [hl]; unfold countK; omega
    have hSn : S ≤ n * 256 := by rw [hl]; exact countK_le S
    rw [← hl] at hdv hdv2
    clear hl
    go_enter Tryd.func23, Tryd.ntmps23
    obtain ⟨K, hK⟩ : ∃ K, w.heap.size = K := ⟨_, rfl⟩
    have h00 : w.ownsRow K 5 1 (.slice none 0 0) (0 * 256) (cells (flatS (l.take 0))) := World.ownsRow_nil _ _ _ _
    have hB0 : Below K w w := Below.refl _ _
    have hKs : K ≤ w.heap.size := by omega
    have HK := Lib.hid hK
    rw [hK] at hB
    clear hK
    obtain ⟨i0, hi, hz0, hz1, hz2⟩ := info_parts Tryd.info5
    go_wp2_with fail
    go_loopw [6, 7] (fun v i W => ∃ k : Nat, k ≤ n ∧ i = .int .i64 k ∧ Hid (W.ownsRow K 5 1 v (k * 256) (cells (flatS (l.take k)))) ∧ Hid (Below K w W) ∧ Hid (K ≤ W.heap.size)) (fun _ i _ => n - (intOf i).toNat)
    case atStart => exact ⟨0, Nat.zero_le _, rfl, h00, hB0, hKs⟩
    case round =>
      obtain ⟨k, hk, rfl, HO, HB, HZ⟩ := hrel
      clear h00 hB0 hKs
      by_cases hlt : k < n
      · obtain ⟨x, hx⟩ : ∃ x, l[k]? = some x := ⟨l[k]'(by rw [← Hn.out]; exact hlt), List.getElem?_eq_getElem _⟩
        have Hx := Lib.hid (flatS_take hx)
        have Hl2 : Hid (l[k]? = some x) := hx
        have HO0 : Hid (wr.ownsRow K 5 1 u6 (k * 256 + 0) (cells (flatS (l.take k) ++ x.1.take 0))) := by show _; rw [List.take_zero, List.append_nil]; exact HO.out
        clear hx HO
        generalize wr = wo at *
        generalize u6 = vo at *
        go_wp2_with fail
        go_loopw [6, 8] (fun v i W => ∃ j : Nat, j ≤ 256 ∧ i = .int .i64 j ∧ Hid (W.ownsRow K 5 1 v (k * 256 + j) (cells (flatS (l.take k) ++ x.1.take j))) ∧ Hid (Below K w W) ∧ Hid (K ≤ W.heap.size)) (fun _ i _ => 256 - (intOf i).toNat)
        case atStart => exact ⟨0, Nat.zero_le _, rfl, HO0, HB, HZ⟩
        case round =>
          obtain ⟨j, hj, rfl, HO1, HB1, HZ1⟩ := hrel
          clear HO0 HB HZ
          by_cases hj2 : j < 256
          · obtain ⟨y, hy⟩ : ∃ y, x.1[j]? = some y := ⟨x.1[j]'(by rw [x.2]; exact hj2), List.getElem?_eq_getElem _⟩
            obtain ⟨bL, oL, rfl, hbL, hra⟩ := lies_sec (H.out.below (HB1.out.mono hB)) Hl2.out
            have hcell := hra j _ (cells_get hy)
            have Hy := Lib.hid (byte_taken hy)
            have HoA := Lib.hid (HO1.out.alloc (.cells #[.int .u8 (y.toNat : Int)] 5))
            have Hli : Hid (Lies (wr.alloc (.cells #[.int .u8 (y.toNat : Int)] 5)) (wr.heap.size + 1) (some ⟨wr.heap.size, 0, none⟩) [y]) := Lies.lit wr _ [y] rfl _ (Nat.lt_succ_self _)
            have HBa : Hid (Below K w (wr.alloc (.cells #[.int .u8 (y.toNat : Int)] 5))) := HB1.out.alloc HZ1.out _
            have HZa : Hid (K ≤ (wr.alloc (.cells #[.int .u8 (y.toNat : Int)] 5)).heap.size) := by show _ ≤ _; have := HZ1.out; simp; omega
            have HK2 : Hid (k * 256 + j + 1 ≤ 140737488355328) := by show _ ≤ _; omega
            clear hra hy HO1
            generalize (y.toNat : Int) = yi at *
            go_wp2_with (at_builtin; refine wpList_append_lies rfl _ _ 22 rfl K i0 Tryd.underlying22 hi hz0 hz1 hz2 u6 (k * 256 + j) _ [y] rfl HoA.out (wr.heap.size + 1) _ 1 1 rfl Hli.out rfl HK2.out HZa.out ?_)
            intro v9 w9 ho9 hg9
            have HO9 : Hid (w9.ownsRow K 5 1 v9 (k * 256 + (j + 1)) (cells (flatS (l.take k) ++ x.1.take (j + 1)))) := by
              show w9.ownsRow _ _ _ _ _ _
              rw [Hy.out]
              first
                | exact ho9
                | (rw [← List.append_assoc]; exact ho9)
            have HB9 : Hid (Below K w w9) := HBa.out.grown hg9 HZa.out (own_ge HoA.out)
            have HZ9 : Hid (K ≤ w9.heap.size) := Nat.le_trans HZa.out hg9.size
            clear ho9 hg9 HoA HBa HZa Hli HK2 HB1 HZ1
            go_wp2_with fail
            go_roundw
            case rel => exact ⟨j + 1, by omega, by go_num, HO9, HB9, HZ9⟩
            case measure => simp [intOf]; omega
          · obtain rfl : j = 256 := by omega
            have HO9 : Hid (wr.ownsRow K 5 1 u6 ((k + 1) * 256) (cells (flatS (l.take (k + 1))))) := by
              have h := HO1.out
              rw [List.take_of_length_le (Nat.le_of_eq x.2), ← Hx.out, ← Nat.succ_mul] at h
              exact h
            clear HO1
            go_wp2_with fail
            go_roundw
            case rel => exact ⟨k + 1, by omega, by go_num, HO9, HB1, HZ1⟩
            case measure => simp [intOf]; omega
      · obtain rfl : k = n := by omega
        have ho := HO.out
        rw [List.take_of_length_le (by rw [← Hn.out]; exact Nat.le_refl _)] at ho
        obtain ⟨g, cap, hv, hcap, hcm, _, _⟩ := own_form ho (by omega)
        subst hv
        obtain ⟨A2, c2, hv2, h3, h4, h5, hlie⟩ := Lies.of_own ho
        injection hv2 with e1 e2 e3
        subst e1 e3
        have hld := hlie.drop (k := S) (c := cap) (by rw [← h3]; exact hcap)
        have HT := Lib.hid (hlie.take S)
        have Hf := Lib.hid h3
        have Hd : Hid (k * 256 - S = ((flatS l).drop S).length) := by show _ = _; rw [List.length_drop, ← Hf.out]
        have Hld := Lib.hid hld
        clear HO ho e2 h3 hlie hld
        have hSc : (S : Int) ≤ ((k * 256 : Nat) : Int) := by omega
        have hSc2 : S ≤ k * 256 := by omega
        have hSc3 : S ≤ cap := by omega
        have hBf : Hid (Below w.heap.size w wr) := by show Below _ _ _; rw [HK.out]; exact HB.out
        have hfin : zeros ((flatS l).drop S) = true → Hid (RetJoin w (S : Int) l (.returned (.tuple #[.slice (some ⟨g, 0, none⟩) S cap, .int .i64 0])) wr) := by
          intro hz
          have hy := joinC_yes hno Hl.out (by rw [Int.toNat_natCast]; exact hz)
          rw [Int.toNat_natCast] at hy
          have hlen : ((flatS l).take S).length = S := by rw [List.length_take, ← Hf.out]; omega
          refine ⟨_, cap, by rw [hy.1, hy.2, hlen], by rw [hy.2, hlen]; exact hSc3, hcm, by rw [hy.2]; exact HT.out, hBf.out⟩
        by_cases hq : cap = S
        · have hz0' : zeros ((flatS l).drop S) = true := by rw [List.drop_of_length_le (by rw [← Hf.out]; omega)]; rfl
          have HF := hfin hz0'
          have hzc := rzero_n (some ⟨g, 0, none⟩) 0 0 [] wr 0 (Lies.nil _ _ _) rfl (by omega)
          clear hfin hz0' Hld HT Hd Hl
          have hk2 : k * 256 - S = 0 := by omega
          subst hq
          go_wp2_with fail
          refine hzc.mono ?_
          rintro e w9 ⟨rfl, rfl⟩
          go_wp2_with fail
          refine bodyPost_ret (results_tmp2 rfl _ _ _) rfl ?_
          exact HF.out
        · have hld2 := Hld.out
          rw [if_neg hq] at hld2
          simp only [Option.map_some, Addr.add_lit, Nat.zero_add] at hld2
          have hzc := rzero_n (some ⟨g, S, none⟩) (k * 256 - S) (cap - S) ((flatS l).drop S) wr wr.heap.size hld2 Hd.out (by omega)
          by_cases hz : zeros ((flatS l).drop S) = true
          · have HF := hfin hz
            rw [hz] at hzc
            clear hfin Hld HT Hd Hl hld2 hz
            go_wp2_with fail
            refine hzc.mono ?_
            rintro e w9 ⟨rfl, rfl⟩
            go_wp2_with fail
            refine bodyPost_ret (results_tmp2 rfl _ _ _) rfl ?_
            exact HF.out
          · have hz' : zeros ((flatS l).drop S) = false := by simpa using hz
            have hy := joinC_bad hno Hl.out (by rw [Int.toNat_natCast]; exact hz')
            have HF : Hid (RetJoin w (S : Int) l (.returned (.tuple #[.slice none 0 0, .int .i64 5])) wr) :=
              ⟨none, 0, by rw [hy.1, hy.2]; rfl, by rw [hy.2]; exact Nat.le_refl _, by simp, by rw [hy.2]; exact Lies.nil _ _ _, hBf.out⟩
            rw [hz'] at hzc
            clear hfin Hld HT Hd Hl hld2 hz hz' hy
            go_wp2_with fail
            refine hzc.mono ?_
            rintro e w9 ⟨rfl, rfl⟩
            go_wp2_with fail
            refine bodyPost_ret (results_tmp2 rfl _ _ _) rfl ?_
            exact HF.out
  · have HJ := Lib.hid (RetJoin.nil_ (w := w) (joinC_arg (s := (S : Int)) (l := l) hno (by rw [← Hn.out, Int.toNat_natCast]; exact hl)))
    have hne : ¬ (n : Int) = ((countK S : Nat) : Int) := by omega
    go_enter Tryd.func23, Tryd.ntmps23
    go_wp2_with fail
    refine bodyPost_ret (results_tmp2 rfl _ _ _) rfl ?_
    exact HJ.out
end Go.Proofs.YtmcbpifkclhfiaaDoor
