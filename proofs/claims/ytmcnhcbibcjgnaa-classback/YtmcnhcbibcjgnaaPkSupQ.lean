/-
  Layer 8: the contract of the reference's Sealed.
-/
import Derived.Test.YtmcnhcbibcjgnaaPkSecGN
import Derived.Test.YtmcnhcbibcjgnaaPkROf
import Derived.Test.YtmcnhcbibcjgnaaPkRPut
namespace Go.Proofs.Ytmcnhcbibcjgnaa
open Go.RowKit
set_option linter.unusedVariables false
set_option linter.unusedSimpArgs false

/-- The length of a slice's value. -/
def lenQ : Value → Nat | .slice _ n _ => n | _ => 0
theorem fill_stepQ {l : List UInt8} {j : Nat} (h : l.length ≤ j) : fill l j ++ [0] = fill l (j + 1) := by
  unfold fill
  rw [show j + 1 - l.length = (j - l.length) + 1 by omega, List.replicate_succ', List.append_assoc]
theorem fill_nilQ : fill [] 256 = List.replicate 256 0 := rfl
theorem fill_takeQ {l : List UInt8} (hl : l.length = 256) {k : Nat} {x : UInt8} (hx : l[k]? = some x) :
    (cells (fill (l.take k) 256)).set k (.int .u8 (x.toNat : Int)) = cells (fill (l.take (k + 1)) 256) := by
  have hk : k < 256 := by rw [List.getElem?_eq_some_iff] at hx; obtain ⟨h, _⟩ := hx; omega
  unfold cells
  rw [← List.map_set (f := fun b : UInt8 => Value.int .u8 (b.toNat : Int)) (a := x)]
  congr 1
  unfold fill
  rw [List.length_take, List.length_take, Nat.min_eq_left (by omega), Nat.min_eq_left (by omega), List.take_add_one, hx, show 256 - k = (256 - (k + 1)) + 1 by omega, List.replicate_succ,
    List.set_append_right _ _ (by rw [List.length_take]; omega)]
  rw [List.length_take, Nat.min_eq_left (by omega), Nat.sub_self]
  simp
theorem fill_all {l : List UInt8} (hl : l.length = 256) : fill (l.take 256) 256 = l := by
  unfold fill
  rw [List.take_of_length_le (by omega), hl]
  simp

set_option maxRecDepth 100000 in
set_option maxHeartbeats 2000000 in
theorem rsealed_any (A : Option Addr) (n c : Nat) (xs : List UInt8) (w : World) (B : Nat) (h : Lies w B A xs) (hn : n = xs.length) (hB : B ≤ w.heap.size) (hx : xs.length ≤ 252) :
    Calls Try.prog 41 #[.slice A n c] w fun e w' => e = .returned (.agg (sealS xs hx).cs.toArray) ∧ Below w.heap.size w w' := by
  obtain ⟨i0, hi, hz0, hz1, hz2⟩ := info_parts Try.info5
  have Hn := Lib.hid hn
  have Hh := Lib.hid h
  have hn2 : n ≤ 252 := by omega
  have Hl : Hid ((fill xs 252).length = 252) := fill_length hx
  have HS : Hid ((sealS xs hx).1 = sealB (fill xs 252)) := rfl
  clear hn h
  go_enter Try.func41, Try.ntmps41
  go_wp2_with ((with_reducible refine at_alloc 48 ?_); refine alloc_sec rfl rfl ?_)
  intro w1 hr1 hb1 hs1
  have hl1 := Hh.out.below (hb1.mono hB)
  have hz1' : w.heap.size < w1.heap.size := by omega
  have hBz : B ≤ w1.heap.size := by omega
  clear hs1
  generalize hN : w.heap.size = N at *
  generalize hSS : sealS xs hx = S at *
  have hown0 : w1.ownsRow w1.heap.size 5 1 (.slice none 0 0) 0 (cells []) := ⟨rfl, .inl ⟨rfl, rfl⟩⟩
  go_wp2_with (at_builtin; refine wpList_append_lies rfl _ _ 66 rfl w1.heap.size i0 Try.underlying66 hi hz0 hz1 hz2 _ 0 [] xs rfl hown0 B _ _ _ rfl hl1 Hn.out (by omega) (Nat.le_refl _) ?_)
  intro v2 w2 hown2 hg2
  have hb2 : Below w1.heap.size w1 w2 := (Below.refl _ _).grown hg2 (Nat.le_refl _) (own_ge hown0)
  obtain ⟨A2, c2, rfl, hm2, _, _, _⟩ := Lies.of_own hown2
  rw [← Hn.out] at hown2 ⊢
  have hown2' : w2.ownsRow w1.heap.size 5 1 (.slice A2 n c2) n (cells (fill xs n)) := by rw [fill, ← Hn.out, Nat.sub_self]; simpa using hown2
  clear hown2 hown0 hm2 hg2 hl1
  generalize hbs : w1.heap.size = b at *
  go_wp2_with fail
  go_loopw [3] (fun v wr => ∃ j A c, n ≤ j ∧ j ≤ 252 ∧ v = .slice A j c ∧ wr.ownsRow b 5 1 (.slice A j c) j (cells (fill xs j)) ∧ Below b w1 wr) (fun v _ => 252 - lenQ v)
  case atStart => exact ⟨n, A2, c2, Nat.le_refl _, hn2, rfl, hown2', hb2⟩
  case round =>
    obtain ⟨j, A, c, hj1, hj2, rfl, hown', hb'⟩ := hrel
    clear hown2' hb2
    by_cases hlt : j < 252
    · have ho' := hown'.alloc (.cells #[Value.int .u8 0] 5)
      have hl' := Lies.lit wr #[Value.int .u8 0] [0] rfl (wr.heap.size + 1) (by omega)
      have hsb : b ≤ wr.heap.size := by have := hb'.size; omega
      have hb'' := hb'.alloc hsb (.cells #[Value.int .u8 0] 5)
      have hs'' : b ≤ (wr.alloc (.cells #[Value.int .u8 0] 5)).heap.size := by have := hb''.size; omega
      go_wp2_with (at_builtin; refine wpList_append_lies rfl _ _ 66 rfl b i0 Try.underlying66 hi hz0 hz1 hz2 _ j (fill xs j) [0] rfl ho' (wr.heap.size + 1) _ _ _ rfl hl' rfl (by omega) hs'' ?_)
      intro v2 w2 hown2 hg2
      rw [fill_stepQ (by have := Hn.out; omega)] at hown2
      obtain ⟨A2, c2, rfl, hn2, _, _, _⟩ := Lies.of_own hown2
      have hb2 := hb''.grown hg2 hs'' (own_ge ho')
      rw [← hn2] at hown2 ⊢
      clear hn2 ho' hl'
      go_wp2_with fail
      go_roundw
      case rel => exact ⟨j + 1, A2, c2, by omega, by omega, rfl, hown2, hb2⟩
      case measure => simp [lenQ]; omega
    · obtain rfl : j = 252 := by omega
      obtain ⟨A', c', hv, hk1, hk2, hk3, hl3⟩ := Lies.of_own hown'
      simp only [Value.slice.injEq] at hv
      obtain ⟨rfl, hzz, rfl⟩ := hv
      clear hzz
      have hsb : b ≤ wr.heap.size := by have := hb'.size; omega
      have Hk1 := Lib.hid hk1
      clear hk1
      go_wp2_with fail
      refine (rof_any _ 252 _ (fill xs 252) wr _ hl3 (Nat.le_refl _) Hk1.out (by omega)).mono ?_
      rintro e w3 ⟨rfl, hb3⟩
      have hown3 := own_below hown' hb3
      have hB3 : Below b w1 w3 := hb'.trans (hb3.mono (by omega))
      have hsb3 : b ≤ w3.heap.size := by have := hb3.size; omega
      have hnv := nv_bd (crcOf (fill xs 252))
      have Hnv : Hid (nv (crcOf (fill xs 252)) = ((crcOf (fill xs 252)).toNat : Int)) := rfl
      have hft : (crcOf (fill xs 252)).toNat < 18446744073709551616 := by have := (crcOf (fill xs 252)).isLt; omega
      clear hown' hb' hb3 hl3
      generalize hcr : crcOf (fill xs 252) = cr at *
      go_wp2_with fail
      refine (rput_any 4 cr.toNat _ 4 w3 Hnv.out rfl (by omega) (by omega) hft).mono ?_
      rintro e w4 ⟨A4, c4, rfl, hc4, hm4, hl4, hb4, _⟩
      have hown4 := own_below hown3 hb4
      have hB4 : Below b w1 w4 := hB3.trans (hb4.mono (by omega))
      have hsb4 : b ≤ w4.heap.size := by have := hb4.size; omega
      have hpl : 252 + (putB cr.toNat 4).length ≤ 140737488355328 := by rw [putB_length]; omega
      clear hown3 hB3 hb4
      go_wp2_with (at_builtin; refine wpList_append_lies rfl _ _ 66 rfl b i0 Try.underlying66 hi hz0 hz1 hz2 _ 252 (fill xs 252) (putB cr.toNat 4) rfl hown4 w4.heap.size _ _ _ rfl hl4 rfl hpl hsb4 ?_)
      intro v5 w5 hown5 hg5
      have hB5 : Below b w1 w5 := hB4.grown hg5 hsb4 (own_ge hown4)
      have hsb5 : b ≤ w5.heap.size := by have := hg5.size; omega
      rw [show 252 + (putB cr.toNat 4).length = 256 by rw [putB_length]] at hown5
      rw [show fill xs 252 ++ putB cr.toNat 4 = S.1 by rw [HS.out, sealB, four, hcr]] at hown5
      clear hown4 hB4 hg5 hl4 hpl hcr HS Hl Hk1
      obtain ⟨A5, c5, rfl, hk51, hk52, hk53, hl5⟩ := Lies.of_own hown5
      have HSl := Lib.hid S.2
      rw [show S.1.length = 256 from S.2]
      go_wp2_with ((with_reducible refine at_alloc 48 ?_); refine alloc_sec rfl rfl ?_)
      intro w6 hr6 hb6 hs6
      have hl6 := hl5.below hb6
      have hB6 : Below b w1 w6 := hB5.trans (hb6.mono (by omega))
      clear hown5 hl5 hB5 hk51 hb6
      generalize hG : w5.heap.size = G at *
      clear hG
      have K1 := Lib.hid (show RowV w6 G 48 (cells (fill (S.1.take 0) 256)) from hr6)
      have K2 := Lib.hid hl6
      have KB := Lib.hid hB6
      clear hr6 hl6 hB6 hs6
      go_wp2_with fail
      go_loopw [5] (fun v W => ∃ k : Nat, k ≤ 256 ∧ v = .int .i64 k ∧ Hid (RowV W G 48 (cells (fill (S.1.take k) 256))) ∧ Hid (Lies W G A5 S.1) ∧ Hid (Below b w1 W)) (fun v _ => 256 - (intOf v).toNat)
      case atStart => exact ⟨0, Nat.zero_le _, rfl, K1, K2, KB⟩
      case round =>
        obtain ⟨k, hkn, rfl, M1, M2, MB⟩ := hrel
        clear K1 K2 KB
        by_cases hlt : k < 256
        · have hlt' : (k : Int) < 256 := by omega
          have hk0 : (0 : Int) ≤ (k : Int) := by omega
          have f := M1.out.frozen k
          obtain ⟨u, g⟩ : ∃ u, wr.cell? ⟨G, k, none⟩ = some u := ⟨_, M1.out.cell (i := k) (List.getElem?_eq_getElem (by rw [cells_length, fill_length (by rw [List.length_take]; omega)]; omega))⟩
          obtain ⟨b5, o5, y, hA5, hb5, hy, hcy⟩ := M2.out.at_ (i := k) (by rw [HSl.out]; exact hlt)
          subst hA5
          have Hy := Lib.hid hy
          clear hy
          go_wp2_with fail
          go_roundw
          case rel =>
            refine ⟨k + 1, by omega, by go_num, Lib.hid ?_, Lib.hid (M2.out.setCell (Nat.le_refl _) _), Lib.hid (MB.out.setCell (by show b ≤ G; omega) _)⟩
            rw [← fill_takeQ HSl.out Hy.out]
            exact M1.out.setCell k _
          case measure => simp [intOf]; omega
        · obtain rfl : k = 256 := by omega
          have hrS : RowV wr G 48 S.cs := by have := M1.out; rw [fill_all HSl.out] at this; exact this
          have hrN := hr1.below (by omega) MB.out
          have hzr := hrN.lt
          have hMB := MB.out
          go_wp2_with (first
            | ((with_reducible refine at_load 48 ?_); refine load_sec rfl _ rfl G rfl hrS ?_)
            | ((with_reducible refine at_store 48 ?_); refine store_sec rfl _ _ rfl N S rfl rfl hrN (Sec.cs_length _) ?_))
          intro w7 hr7 hg7 hs7
          go_wp2_with fail
          exact bodyPost_ret (results_cell_row (fn := Try.f41) rfl _ _ N 48 _ (0, 0) _ rfl hr7 Try.underlying48 rfl (sec_size' _)) rfl ⟨by rw [hSS], by rw [hN]; exact below_grown (hb1.trans (hMB.mono (by omega))) hg7 (Nat.le_refl _) (by omega)⟩
end Go.Proofs.Ytmcnhcbibcjgnaa
