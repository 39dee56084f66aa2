/-
  The contract of works: the examples of the law's package come out true, in whatever world.
-/
import Derived.Test.YtpgddlajlehilaaCur
import Derived.Test.YtpgddlajlehilaaPad
import Derived.Test.YtpgddlajlehilaaWhole
namespace Go.Proofs.Ytpgddlajlehilaa
open Go.RowKit
set_option linter.unusedVariables false

theorem pad_ab (w : World) : Calls Try.prog 14 #[.string ⟨#[97, 98]⟩, .int .i64 4] w (RetRowCode w [2, 97, 98, 0] 0) := by
  have h := pad_any ⟨#[97, 98]⟩ 4 w
  rwa [show padBytes (ByteArray.mk #[97, 98]).data.toList 4 = [2, 97, 98, 0] by decide, show padCode (ByteArray.mk #[97, 98]).data.toList 4 = 0 by decide] at h
theorem pad_abcd (w : World) : Calls Try.prog 14 #[.string ⟨#[97, 98, 99, 100]⟩, .int .i64 4] w (RetRowCode w [] 15) := by
  have h := pad_any ⟨#[97, 98, 99, 100]⟩ 4 w
  rwa [show padBytes (ByteArray.mk #[97, 98, 99, 100]).data.toList 4 = [] by decide, show padCode (ByteArray.mk #[97, 98, 99, 100]).data.toList 4 = 15 by decide] at h
theorem unpad_ab (A : Option Addr) (c : Nat) (w : World) (B : Nat) (hc : 4 ≤ c) (hm : c ≤ maxLen) (h : Lies w B A [2, 97, 98, 0]) :
    Calls Try.prog 16 #[.slice A 4 c] w fun e w' => e = .returned (.tuple #[.string ⟨#[97, 98]⟩, .int .i64 0]) ∧ ∃ m, w' = w.drewN m := by
  have := unpad_any [2, 97, 98, 0] A 4 c w B rfl hc (by unfold maxLen at hm; exact hm) h
  rwa [show unpadV [2, 97, 98, 0] = .tuple #[.string ⟨#[97, 98]⟩, .int .i64 0] by simp [unpadV, unpadS, unpadC, show unpadO [2, 97, 98, 0] = some [97, 98] by decide]] at this
theorem num_works (w : World) (g : Nat) (h : Cur w g [1, 2, 1, 120, 0, 0] false) :
    Calls Try.prog 23 #[.pointer (some ⟨g, 0, none⟩), .int .i64 2] w (RetG w g (.int .u64 513) [1, 120, 0, 0] false) := by
  have := num_any w g _ _ 2 h (by simp)
  rwa [show leN ((cutGot [1, 2, 1, 120, 0, 0] false 2).take 8) = 513 by decide, show cutRest [1, 2, 1, 120, 0, 0] false 2 = [1, 120, 0, 0] by decide, show cutBad [1, 2, 1, 120, 0, 0] false 2 = false by decide] at this
theorem text_works (w : World) (g : Nat) (h : Cur w g [1, 120, 0, 0] false) :
    Calls Try.prog 22 #[.pointer (some ⟨g, 0, none⟩), .int .i64 3] w (RetG w g (.string ⟨#[120]⟩) [0] false) := by
  have := text_any w g _ _ 3 h (by simp)
  rwa [show unpadS (cutGot [1, 120, 0, 0] false 3) = [120] by decide, show cutRest [1, 120, 0, 0] false 3 = [0] by decide, show cutBad [1, 120, 0, 0] false 3 = false by decide,
    show (unpadO (cutGot [1, 120, 0, 0] false 3)).isNone = false by decide] at this

theorem put_works (w : World) : Calls Try.prog 10 #[.int .u64 513, .int .i64 3] w (RetRow w [1, 2, 0]) := by
  have := put_any 513 3 w (by omega) (by omega)
  rwa [show putB 513 (3 : Int).toNat = [1, 2, 0] by decide] at this
theorem bytes_works (w : World) (g : Nat) (h : Cur w g [] false) : Calls Try.prog 26 #[.pointer (some ⟨g, 0, none⟩), .int .i64 2] w (RetRowG w g [0, 0]) := by
  have := bytes_any w g [] false 2 h (by simp)
  refine this.mono fun e w' hh => ?_
  have := hh.1
  rwa [show cutGot [] false 2 = [0, 0] by decide] at this
theorem rest_works (w : World) (g : Nat) (h : Cur w g [0] false) : Calls Try.prog 24 #[.pointer (some ⟨g, 0, none⟩)] w fun e w' => e = .returned (.bool true) ∧ w = w' := rest_any w g [0] false h (by simp)
theorem right_works (w : World) (g : Nat) (h : Cur w g [0] false) : Calls Try.prog 25 #[.pointer (some ⟨g, 0, none⟩)] w fun e w' => e = .returned (.bool true) ∧ w = w' := right_any w g [0] false h
theorem zero_works0 (w : World) : Calls Try.prog 19 #[.slice none 0 0] w fun e w' => e = .returned (.bool true) ∧ w = w' := zero_n none 0 0 [] w 0 (Lies.nil _ _ _) rfl (by omega)
theorem zero_works1 (w : World) (A : Option Addr) (c B : Nat) (h : Lies w B A [1]) : Calls Try.prog 19 #[.slice A 1 c] w fun e w' => e = .returned (.bool false) ∧ w = w' := zero_n A 1 c [1] w B h rfl (by omega)
theorem Cur.grown {w w' : World} {g r : Nat} {xs : List UInt8} {bad : Bool} (h : Cur w g xs bad) (hg : w.grownBy w' (some r)) (hr : g < r) : Cur w' g xs bad := by
  have hlt := h.lt
  obtain ⟨A, c, hh, h1, h2, h3⟩ := h
  exact ⟨A, c, (hg.block g hlt (fun e => by injection e with e; omega)).trans hh, h1, h2, h3.grown hg (by omega) (fun k e => by injection e with e; omega)⟩
theorem grown_setRow (w : World) (g : Nat) (cs : Array Value) : w.grownBy (w.setRow g cs) (some g) := ⟨rfl, rfl, rfl, by simp, fun k _ hk => setRow_other w g k cs (fun e => hk (by rw [e]))⟩

set_option maxRecDepth 100000 in
set_option maxHeartbeats 1000000 in
theorem works_any (w : World) : Calls Try.prog 8 #[] w fun e w' => e = .returned (.bool true) ∧ Below w.heap.size w w' := by
  go_enter Try.func8, Try.ntmps8
  go_wp2_with fail
  refine (pad_ab w).mono ?_
  rintro e w1 ⟨A1, c1, rfl, hc1, hm1, hl1, hb1⟩
  go_wp2_with fail
  refine (unpad_ab A1 c1 w1 _ hc1 hm1 hl1).mono ?_
  rintro e w2 ⟨rfl, m, rfl⟩
  have hb2 : Below w.heap.size w (w1.drewN m) := below_drewN' hb1 m
  have hl2 : Lies (w1.drewN m) (w1.drewN m).heap.size A1 [2, 97, 98, 0] := hl1
  generalize w1.drewN m = w2 at *
  clear hl1 hb1
  go_wp2_with fail
  refine (pad_abcd w2).mono ?_
  rintro e w3 ⟨A3, c3, rfl, _, _, _, hb3⟩
  have hl3 := hl2.below hb3
  have hb3' := below_seq hb2 hb3
  have hs3 := hb3.size
  go_wp2_with fail
  refine (from_any _ _ _ [1, 2, 1, 120, 0, 0] _ (Lies.lit w3 _ _ rfl _ (by simp)) rfl (by simp)).mono ?_
  rintro e w4 ⟨g, rfl, hg4, hcur4, hb4⟩
  have hb34 : Below w3.heap.size w3 w4 := ((Below.refl _ _).alloc (Nat.le_refl _) _).trans (hb4.mono (by simp))
  have hb4' : Below w.heap.size w w4 := below_seq hb3' hb34
  have hl4 : Lies w4 w2.heap.size A1 [2, 97, 98, 0] := hl3.below (hb34.mono hs3)
  have hgw : w.heap.size ≤ g := by have := hb3'.size; simp at hg4; omega
  have hg2 : w2.heap.size ≤ g := by simp at hg4; omega
  have hs4 : w2.heap.size ≤ w4.heap.size := by have := hb34.size; omega
  clear hl2 hb2 hb3 hl3 hb3' hs3 hb4 hb34 hg4
  go_wp2_with fail
  refine (num_works w4 g hcur4).mono ?_
  rintro e w5 ⟨rfl, hcur5, hgr5⟩
  have hb5 := hb4'.grown hgr5 hb4'.size (fun k e => by injection e with e; omega)
  have hl5 := hl4.grown hgr5 hs4 (fun k e => by injection e with e; omega)
  have hs5 := Nat.le_trans hs4 hgr5.size
  clear hb4' hl4 hs4 hgr5 hcur4
  go_wp2_with fail
  refine (text_works w5 g hcur5).mono ?_
  rintro e w6 ⟨rfl, hcur6, hgr6⟩
  have hb6 := hb5.grown hgr6 hb5.size (fun k e => by injection e with e; omega)
  have hl6 := hl5.grown hgr6 hs5 (fun k e => by injection e with e; omega)
  have hs6 := Nat.le_trans hs5 hgr6.size
  clear hb5 hl5 hs5 hgr6 hcur5
  go_wp2_with fail
  refine (whole_any _ _ _ [7] _ _ (Lies.lit w6 _ [7] rfl _ (Nat.lt_succ_self _)) rfl (by simp)).mono ?_
  rintro e w7 ⟨rfl, hb67⟩
  have hb67' : Below w6.heap.size w6 w7 := ((Below.refl _ _).alloc (Nat.le_refl _) _).trans (hb67.mono (by simp))
  have hb7 := below_seq hb6 hb67'
  have hl7 := hl6.below (hb67'.mono hs6)
  have hs7 := Nat.le_trans hs6 hb67'.size
  have hcur7 := hcur6.below hb67'
  clear hb6 hl6 hs6 hb67 hb67' hcur6
  have hsz3 : (Try.prog.info? 35).map (·.size) = some ((cells (wholeB [7])).toArray).size := by rw [Try.size35]; simp only [List.size_toArray, cells_length, wholeB_length]
  have hold : ((cells sec0).toArray).size = ((cells (wholeB [7])).toArray).size := by simp only [List.size_toArray, cells_length, wholeB_length, sec0_length]
  have Hsz3 := Lib.hid hsz3
  have Hold := Lib.hid hold
  clear hsz3 hold
  go_wp2_with (with_reducible refine wpList_alloc_row rfl 35 rfl sec0 Try.zero35 ?_)
  intro w8 hr8 hb78 hs8
  have hb8 := below_seq hb7 hb78
  have hl8 := hl7.below (hb78.mono hs7)
  have hs8' := Nat.le_trans hs7 hb78.size
  have hcur8 := hcur7.below hb78
  have hg7 := hcur7.lt
  have hw7 := hb7.size
  clear hb7 hl7 hcur7 hb78 hs8
  go_wp2_with ((with_reducible refine at_store 35 ?_); refine wpList_store_row rfl 35 _ _ rfl w7.heap.size _ rfl rfl 35 _ hr8 Hsz3.out Hold.out (cells_oneCell _) ?_)
  have hgr9 := grown_setRow w8 w7.heap.size (cells (wholeB [7])).toArray
  have hr9 := hr8.set (wholeB [7])
  have hb9 := hb8.grown hgr9 hb8.size (fun k e => by injection e with e; omega)
  have hl9 := hl8.grown hgr9 hs8' (fun k e => by injection e with e; omega)
  have hs9 := Nat.le_trans hs8' hgr9.size
  have hcur9 := hcur8.grown hgr9 hg7
  generalize w8.setRow w7.heap.size (cells (wholeB [7])).toArray = w9 at *
  clear hb8 hl8 hs8' hcur8 hr8 hgr9
  refine (put_works w9).mono ?_
  rintro e w10 ⟨A10, c10, rfl, _, _, hl10, hb10⟩
  have hcv := run_str (P := Try.prog) 23 5 9 Try.underlying23 Try.underlying5 Try.underlying9 3 c10 hl10 rfl
  have hb10' := below_seq hb9 hb10
  have hr10 := hr9.below hb10
  have hl10' := hl9.below (hb10.mono hs9)
  have hs10 := Nat.le_trans hs9 hb10.size
  have hcur10 := hcur9.below hb10
  clear hb9 hr9 hl9 hs9 hcur9 hb10 hl10
  go_wp2_with fail
  refine (get_n _ _ _ [1, 2] _ _ (Lies.lit w10 _ [1, 2] rfl _ (Nat.lt_succ_self _)) rfl (by simp)).mono ?_
  rintro e w11 ⟨rfl, rfl⟩
  generalize hW : w10.alloc _ = w11
  have hb11 : Below w.heap.size w w11 := by rw [← hW]; exact hb10'.alloc hb10'.size _
  have hr11 : Row w11 w7.heap.size 35 (wholeB [7]) := by rw [← hW]; exact hr10.alloc _
  have hl11 : Lies w11 w2.heap.size A1 [2, 97, 98, 0] := by rw [← hW]; exact hl10'.alloc hs10 _
  have hcur11 : Cur w11 g [0] false := by rw [← hW]; exact hcur10.below ((Below.refl w10.heap.size w10).alloc (Nat.le_refl _) _)
  have hs11 : w2.heap.size ≤ w11.heap.size := by rw [← hW]; simp; omega
  clear hW
  clear hb10' hr10 hl10' hs10 hcur10 hcv
  have hcv := run_str (P := Try.prog) 23 5 9 Try.underlying23 Try.underlying5 Try.underlying9 4 c1 hl11 rfl
  rw [show leN (List.take 8 [1, 2]) = 513 by decide]
  go_wp2_with fail
  refine (rest_works w11 g hcur11).mono ?_
  rintro e w12 ⟨rfl, rfl⟩
  go_wp2_with fail
  refine (right_works w11 g hcur11).mono ?_
  rintro e w12 ⟨rfl, rfl⟩
  go_wp2_with fail
  refine (zero_works0 w11).mono ?_
  rintro e w12 ⟨rfl, rfl⟩
  go_wp2_with fail
  refine (zero_works1 _ _ _ _ (Lies.lit w11 _ [1] rfl _ (Nat.lt_succ_self _))).mono ?_
  rintro e w12 ⟨rfl, rfl⟩
  generalize hW : w11.alloc _ = w12
  have hb12 : Below w.heap.size w w12 := by rw [← hW]; exact hb11.alloc hb11.size _
  have hr12 : Row w12 w7.heap.size 35 (wholeB [7]) := by rw [← hW]; exact hr11.alloc _
  clear hW hb11 hr11 hl11 hcur11 hs11 hcv
  have p0 := hr12.cell (i := 0) (x := 7) rfl
  have p1 := hr12.cell (i := 1) (x := 0) (by decide)
  go_wp2_with fail
  refine (from_any _ _ _ [] _ (Lies.nil _ _ _) rfl (by simp)).mono ?_
  rintro e w13 ⟨g2, rfl, hg13, hcur13, hb13⟩
  have hb13' := below_seq hb12 hb13
  have hsz12 := hb12.size
  go_wp2_with fail
  refine (bytes_works w13 g2 hcur13).mono ?_
  rintro e w14 ⟨A14, c14, rfl, _, _, _, hgr14⟩
  have hb14 := hb13'.grown hgr14 hb13'.size (fun k e => by injection e with e; omega)
  clear hb13' hgr14 hcur13 hb13 hb12 hr12 p0 p1
  go_wp2_with fail
  go_ret
  exact ⟨rfl, hb14⟩
end Go.Proofs.Ytpgddlajlehilaa
