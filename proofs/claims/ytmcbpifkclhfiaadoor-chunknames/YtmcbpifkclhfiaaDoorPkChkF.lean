/-
  Layer 13: the contract of Join.
-/
import Derived.Test.YtmcbpifkclhfiaaDoorPkChkA
import Derived.Test.YtmcbpifkclhfiaaDoorPkSecL
import Derived.Test.YtmcbpifkclhfiaaDoorPkRSame
import Derived.Test.YtmcbpifkclhfiaaDoorPkHashM
import Derived.Test.YtmcbpifkclhfiaaDoorPkStillB
namespace Go.Proofs.YtmcbpifkclhfiaaDoor
open Go.RowKit
set_option linter.unusedVariables false

theorem joinC_size {s : Int} {l : List Sec} (h : s < 1 ∨ 2048 < s) : joinC s l = 15 ∧ joinB s l = [] := by
  have : joinC s l = 15 := by unfold joinC; rw [if_pos h]
  exact ⟨this, by unfold joinB; rw [this, if_neg (by decide)]⟩
theorem joinC_arg {s : Int} {l : List Sec} (h : ¬ (s < 1 ∨ 2048 < s)) (hl : l.length ≠ countK s.toNat) : joinC s l = 1 ∧ joinB s l = [] := by
  have : joinC s l = 1 := by unfold joinC; rw [if_neg h, if_pos hl]
  exact ⟨this, by unfold joinB; rw [this, if_neg (by decide)]⟩
theorem joinC_bad {s : Int} {l : List Sec} (h : ¬ (s < 1 ∨ 2048 < s)) (hl : l.length = countK s.toNat) (hz : zeros ((flatS l).drop s.toNat) = false) : joinC s l = 5 ∧ joinB s l = [] := by
  have : joinC s l = 5 := by
    unfold joinC
    rw [if_neg h, if_neg (by simp [hl])]
    have : ((flatS l).drop s.toNat).all (· == 0) = false := hz
    rw [this]
    rfl
  exact ⟨this, by unfold joinB; rw [this, if_neg (by decide)]⟩
theorem joinC_yes {s : Int} {l : List Sec} (h : ¬ (s < 1 ∨ 2048 < s)) (hl : l.length = countK s.toNat) (hz : zeros ((flatS l).drop s.toNat) = true) : joinC s l = 0 ∧ joinB s l = (flatS l).take s.toNat := by
  have : joinC s l = 0 := by
    unfold joinC
    rw [if_neg h, if_neg (by simp [hl])]
    have : ((flatS l).drop s.toNat).all (· == 0) = true := hz
    rw [this]
    rfl
  exact ⟨this, by unfold joinB; rw [this, if_pos rfl]⟩
/-- How Join answers. -/
def RetJoin (w : World) (s : Int) (l : List Sec) (e : Ending) (w' : World) : Prop :=
  ∃ A c, e = .returned (.tuple #[.slice A (joinB s l).length c, .int .i64 (joinC s l)]) ∧ (joinB s l).length ≤ c ∧ c ≤ maxLen ∧ Lies w' w'.heap.size A (joinB s l) ∧ Below w.heap.size w w'
theorem RetJoin.nil_ {w : World} {s : Int} {l : List Sec} {r : Int} (h : joinC s l = r ∧ joinB s l = []) : RetJoin w s l (.returned (.tuple #[.slice Option.none 0 0, .int .i64 r])) w := by
  refine ⟨Option.none, 0, ?_, ?_, by simp, ?_, Below.refl _ _⟩
  · rw [h.1, h.2]; rfl
  · rw [h.2]; exact Nat.le_refl _
  · rw [h.2]; exact Lies.nil _ _ _

set_option maxRecDepth 100000 in
set_option maxHeartbeats 2000000 in
theorem kjoin_any (s : Int) (L : Option Addr) (n c : Nat) (l : List Sec) (w : World) (B : Nat) (h : LiesV w B L (secs l)) (hB : B ≤ w.heap.size) (hn : n = l.length) (hm : n ≤ 9223372036854775807) (h1 : -9223372036854775808 ≤ s) (h2 : s ≤ 9223372036854775807) :
    Calls Tryd.prog 22 #[.int .i64 s, .slice L n c] w (RetJoin w s l) := by
  have Hn := Lib.hid hn
  have H := Lib.hid h
  have hsl : ∀ W g, (Instr.sliceAt 42 (.pointer (some ⟨g, 0, none⟩)) none none none).run Tryd.prog W = .ok (.slice (some ⟨g, 0, none⟩) 256 256) W := fun W g => run_slice_arr_all Tryd.underlying42 Tryd.size5 g
  clear hn h
  by_cases hs1 : s < 1
  · have HJ := Lib.hid (RetJoin.nil_ (w := w) (joinC_size (s := s) (l := l) (.inl hs1)))
    go_enter Tryd.func22, Tryd.ntmps22
    go_wp2_with fail
    refine bodyPost_ret (results_tmp2 rfl _ _ _) rfl ?_
    exact HJ.out
  by_cases hs2 : 2048 < s
  · have HJ := Lib.hid (RetJoin.nil_ (w := w) (joinC_size (s := s) (l := l) (.inr hs2)))
    go_enter Tryd.func22, Tryd.ntmps22
    go_wp2_with fail
    refine bodyPost_ret (results_tmp2 rfl _ _ _) rfl ?_
    exact HJ.out
  obtain ⟨S, hS⟩ : ∃ S : Nat, s = S := ⟨s.toNat, by omega⟩
  subst hS
  have hno : ¬ ((S : Int) < 1 ∨ 2048 < (S : Int)) := by omega
  have hcnt := fun V : World => kcount_any (S : Int) V h1 h2
  simp only [Int.toNat_natCast] at hcnt
  by_cases hl : n = countK S
  · have Hl : Hid (l.length = countK ((S : Int)).toNat) := by show _ = _; rw [← Hn.out, Int.toNat_natCast]; exact hl
    have hl8 : n ≤ 8 := by rw [hl]; unfold countK; omega
    have hSn : S ≤ n * 256 := by rw [hl]; exact countK_le S
    rw [← hl] at hcnt
    clear hl
    go_enter Tryd.func22, Tryd.ntmps22
    go_wp2_with fail
    refine (hcnt w).mono ?_
    rintro e w1 ⟨rfl, rfl⟩
    go_wp2_with fail
    obtain ⟨K, hK⟩ : ∃ K, w.heap.size = K := ⟨_, rfl⟩
    have h00 : w.ownsRow K 5 1 (.slice none 0 0) (0 * 256) (cells (flatS (l.take 0))) := World.ownsRow_nil _ _ _ _
    have hB0 : Below K w w := Below.refl _ _
    have hKs : K ≤ w.heap.size := by omega
    have HK := Lib.hid hK
    rw [hK] at hB
    clear hK
    obtain ⟨i0, hi, hz0, hz1, hz2⟩ := info_parts Tryd.info5
    go_loopw [6, 22] (fun v i W => ∃ k : Nat, k ≤ n ∧ i = .int .i64 k ∧ Hid (W.ownsRow K 5 1 v (k * 256) (cells (flatS (l.take k)))) ∧ Hid (Below K w W) ∧ Hid (K ≤ W.heap.size)) (fun _ i _ => n - (intOf i).toNat)
    case atStart => exact ⟨0, Nat.zero_le _, rfl, h00, hB0, hKs⟩
    case round =>
      obtain ⟨k, hk, rfl, HO, HB, HZ⟩ := hrel
      clear h00 hB0 hKs
      by_cases hlt : k < n
      · obtain ⟨x, hx⟩ : ∃ x, l[k]? = some x := ⟨l[k]'(by rw [← Hn.out]; exact hlt), List.getElem?_eq_getElem _⟩
        obtain ⟨bL, oL, rfl, hbL, hra⟩ := lies_sec (H.out.below (HB.out.mono hB)) hx
        have Hx := Lib.hid (flatS_take hx)
        have Hra := Lib.hid hra
        have Hs : Hid ((Tryd.prog.info? 42).map (·.size) = some x.cs.length) := by show _ = _; rw [Tryd.size35, Sec.cs_length]
        have Hsz : Hid ((Tryd.prog.info? 42).map (·.size) = some x.cs.toArray.size) := by show _ = _; rw [Tryd.size35, List.size_toArray, Sec.cs_length]
        have Hold : Hid (((cells sec0).toArray).size = (x.cs.toArray).size) := by show _ = _; rw [List.size_toArray, List.size_toArray, cells_length, Sec.cs_length]; rfl
        clear hra hx
        go_wp2_with (first
          | ((with_reducible refine at_load 42 ?_); refine wpList_load_mid rfl 42 _ rfl bL (oL + k * 256) rfl x.cs _ Hra.out Tryd.underlying42 rfl Hs.out ?_)
          | ((with_reducible refine at_alloc 42 ?_); refine wpList_alloc_rowV rfl 42 rfl (cells sec0) Tryd.zero35 ?_))
        intro w7 hr7 hb7 hs7
        have HO7 := Lib.hid (own_below HO.out hb7)
        have HB7 : Hid (Below K w w7) := HB.out.trans (hb7.mono HZ.out)
        obtain ⟨G, hG⟩ : ∃ G, wr.heap.size = G := ⟨_, rfl⟩
        have HG : Hid (K ≤ G) := by show _ ≤ _; rw [← hG]; exact HZ.out
        have HL : ∀ j, u6.ownBlock = some j → j < G := by intro j hj; rw [← hG]; exact own_lt HO.out hj
        rw [hG] at hr7 hs7 ⊢
        clear hb7 hG HO HB HZ
        go_wp2_with ((with_reducible refine at_store 42 ?_); refine wpList_store_rowV rfl 42 _ _ rfl G x.cs rfl rfl 42 _ hr7 Hsz.out Hold.out (cells_oneCell _) ?_)
        intro w8 hr8 hg8 hs8
        have HO8 := Lib.hid (HO7.out.kept hg8 (.inr (fun e => by have := HL G e; omega)))
        have HB8 : Hid (Below K w w8) := HB7.out.grown hg8 (by have := HG.out; omega) (fun j e => by injection e with e; have := HG.out; omega)
        have HZ8 : Hid (K ≤ w8.heap.size) := by show _ ≤ _; have := HG.out; omega
        have hlx8 : Lies w8 w8.heap.size (some ⟨G, 0, none⟩) x.1 := Row.lies hr8
        have Hxl : Hid (256 = x.1.length) := x.2.symm
        have HK2 : Hid (k * 256 + 256 ≤ 140737488355328) := by show _ ≤ _; omega
        clear HO7 HB7 HL hr8 hg8 hs8 hs7 hr7
        go_wp2_with (at_builtin; refine wpList_append_lies rfl _ _ 22 rfl K i0 Tryd.underlying22 hi hz0 hz1 hz2 u6 (k * 256) (flatS (l.take k)) x.1 rfl HO8.out w8.heap.size _ 256 256 rfl hlx8 Hxl.out HK2.out HZ8.out ?_)
        intro v9 w9 ho9 hg9
        have HO9 : Hid (w9.ownsRow K 5 1 v9 ((k + 1) * 256) (cells (flatS (l.take (k + 1))))) := by
          show _
          rw [Hx.out, Nat.succ_mul]
          exact ho9
        have HB9 : Hid (Below K w w9) := HB8.out.grown hg9 HZ8.out (own_ge HO8.out)
        have HZ9 : Hid (K ≤ w9.heap.size) := Nat.le_trans HZ8.out hg9.size
        clear ho9 hg9 HO8 HB8 HZ8 hlx8 Hxl HK2 HG
        go_wp2_with fail
        go_roundw
        case rel => exact ⟨k + 1, by omega, by go_num, HO9, HB9, HZ9⟩
        case measure => simp [intOf]; omega
      · obtain rfl : k = n := by omega
        have ho := HO.out
        rw [List.take_of_length_le (by rw [← Hn.out]; exact Nat.le_refl _)] at ho
        obtain ⟨g, cap, hv, hcap, hcm, _, _⟩ := own_form ho (by omega)
        subst hv
        obtain ⟨A2, c2, hv2, h3, h4, h5, hlie⟩ := Lies.of_own ho
        injection hv2 with e1 e2 e3
        subst e1 e3
        have hld := hlie.drop (k := S) (c := cap) (by rw [← h3]; exact hcap)
        have HT := Lib.hid (hlie.take S)
        have Hf := Lib.hid h3
        have Hd : Hid (k * 256 - S = ((flatS l).drop S).length) := by show _ = _; rw [List.length_drop, ← Hf.out]
        have Hld := Lib.hid hld
        clear HO ho e2 h3 hlie hld
        have hSc : (S : Int) ≤ ((k * 256 : Nat) : Int) := by omega
        have hSc2 : S ≤ k * 256 := by omega
        have hSc3 : S ≤ cap := by omega
        have hBf : Hid (Below w.heap.size w wr) := by show Below _ _ _; rw [HK.out]; exact HB.out
        have hfin : zeros ((flatS l).drop S) = true → Hid (RetJoin w (S : Int) l (.returned (.tuple #[.slice (some ⟨g, 0, none⟩) S cap, .int .i64 0])) wr) := by
          intro hz
          have hy := joinC_yes hno Hl.out (by rw [Int.toNat_natCast]; exact hz)
          rw [Int.toNat_natCast] at hy
          have hlen : ((flatS l).take S).length = S := by rw [List.length_take, ← Hf.out]; omega
          refine ⟨_, cap, by rw [hy.1, hy.2, hlen], by rw [hy.2, hlen]; exact hSc3, hcm, by rw [hy.2]; exact HT.out, hBf.out⟩
        by_cases hq : cap = S
        · have hz0' : zeros ((flatS l).drop S) = true := by rw [List.drop_of_length_le (by rw [← Hf.out]; omega)]; rfl
          have HF := hfin hz0'
          have hzc := zero_n (some ⟨g, 0, none⟩) 0 0 [] wr 0 (Lies.nil _ _ _) rfl (by omega)
          clear hfin hz0' Hld HT Hd Hl hcnt
          have hk2 : k * 256 - S = 0 := by omega
          subst hq
          go_wp2_with fail
          refine hzc.mono ?_
          rintro e w9 ⟨rfl, rfl⟩
          go_wp2_with fail
          refine bodyPost_ret (results_tmp2 rfl _ _ _) rfl ?_
          exact HF.out
        · have hld2 := Hld.out
          rw [if_neg hq] at hld2
          simp only [Option.map_some, Addr.add_lit, Nat.zero_add] at hld2
          have hzc := zero_n (some ⟨g, S, none⟩) (k * 256 - S) (cap - S) ((flatS l).drop S) wr wr.heap.size hld2 Hd.out (by omega)
          by_cases hz : zeros ((flatS l).drop S) = true
          · have HF := hfin hz
            rw [hz] at hzc
            clear hfin Hld HT Hd Hl hcnt hld2 hz
            go_wp2_with fail
            refine hzc.mono ?_
            rintro e w9 ⟨rfl, rfl⟩
            go_wp2_with fail
            refine bodyPost_ret (results_tmp2 rfl _ _ _) rfl ?_
            exact HF.out
          · have hz' : zeros ((flatS l).drop S) = false := by simpa using hz
            have hy := joinC_bad hno Hl.out (by rw [Int.toNat_natCast]; exact hz')
            have HF : Hid (RetJoin w (S : Int) l (.returned (.tuple #[.slice none 0 0, .int .i64 5])) wr) :=
              ⟨none, 0, by rw [hy.1, hy.2]; rfl, by rw [hy.2]; exact Nat.le_refl _, by simp, by rw [hy.2]; exact Lies.nil _ _ _, hBf.out⟩
            rw [hz'] at hzc
            clear hfin Hld HT Hd Hl hcnt hld2 hz hz' hy
            go_wp2_with fail
            refine hzc.mono ?_
            rintro e w9 ⟨rfl, rfl⟩
            go_wp2_with fail
            refine bodyPost_ret (results_tmp2 rfl _ _ _) rfl ?_
            exact HF.out
  · have HJ := Lib.hid (RetJoin.nil_ (w := w) (joinC_arg (s := (S : Int)) (l := l) hno (by rw [← Hn.out, Int.toNat_natCast]; exact hl)))
    have hne : ¬ (n : Int) = ((countK S : Nat) : Int) := by omega
    go_enter Tryd.func22, Tryd.ntmps22
    go_wp2_with fail
    refine (hcnt w).mono ?_
    rintro e w1 ⟨rfl, rfl⟩
    go_wp2_with fail
    refine bodyPost_ret (results_tmp2 rfl _ _ _) rfl ?_
    exact HJ.out
end Go.Proofs.YtmcbpifkclhfiaaDoor
