/-
  Contracts of bytes.Clone and of the cursor: From, Bytes, Num.
  The contract of the cursor's Text.
  Numbers of two and of eight bytes: written, read from a cursor.
-/
import Derived.Test.YtmcnhcbibcjgnaaPkPutO
import Derived.Test.YtmcnhcbibcjgnaaPkGet
import Derived.WalkSpells
namespace Go.Proofs.Ytmcnhcbibcjgnaa
open Go.RowKit
set_option linter.unusedVariables false

set_option maxRecDepth 100000 in
set_option maxHeartbeats 400000 in
theorem clone_any (A : Option Addr) (n c : Nat) (xs : List UInt8) (w : World) (h : Lies w w.heap.size A xs) (hn : n = xs.length) (hm : n ≤ 140737488355328) :
    Calls Try.prog 44 #[.slice A n c] w (RetNew w xs) := by
  obtain ⟨i0, hi, hz0, hz1, hz2⟩ := info_parts Try.info5
  have heq := fun (W : World) (a : Option Addr) (n c n' c' : Nat) => Lib.run_eql_slice_nil (P := Try.prog) W 66 5 a n c n' c' Try.underlying66
  rcases A with _ | a
  · have hx : xs = [] := by
      rcases xs with _ | ⟨x, xs⟩
      · rfl
      · obtain ⟨_, _, e, _⟩ := h (by simp)
        cases e
    subst hx
    go_enter Try.func44, Try.ntmps44
    go_wp2
    go_ret
    exact ⟨none, 0, rfl, Nat.le_refl _, by unfold maxLen; omega, Lies.nil _ _ _, Below.refl _ _, fun a e => by cases e⟩
  · have hown : (w.alloc (.cells #[] 5)).ownsRow w.heap.size 5 1 (.slice (some ⟨w.heap.size, 0, none⟩) 0 0) 0 (cells []) :=
      World.ownsRow_lit w #[] 0 (Nat.le_refl _) (by unfold maxLen; omega) rfl
    have hl1 := h.alloc (Nat.le_refl _) (.cells #[] 5)
    have hb1 : Below w.heap.size w (w.alloc (.cells #[] 5)) := (Below.refl _ _).alloc (Nat.le_refl _) _
    have hs1 := hb1.size
    have Hn := Lib.hid hn
    clear hn h
    go_enter Try.func44, Try.ntmps44
    go_wp2_with (at_builtin; refine wpList_append_lies rfl _ _ 66 rfl w.heap.size i0 Try.underlying66 hi hz0 hz1 hz2 _ 0 [] xs rfl hown w.heap.size _ _ _ rfl hl1 Hn.out (by omega) hs1 ?_)
    intro v' w2 hown2 hg2
    go_wp2_with fail
    go_ret
    obtain ⟨A2, c2, rfl, h1, h2, h3, h4⟩ := Lies.of_own hown2
    exact ⟨A2, c2, rfl, by have := Hn.out; omega, h3, h4, hb1.grown hg2 hs1 (own_ge hown), Fresh.of_own hown2⟩

/-- The cursor at block g: it has the bytes xs before it; it is invalid or not. -/
def Cur (w : World) (g : Nat) (xs : List UInt8) (bad : Bool) : Prop :=
  ∃ A c, w.heap[g]? = some (.cells #[.slice A xs.length c, .bool bad] 78 (0, 0)) ∧ xs.length ≤ c ∧ c ≤ maxLen ∧ Lies w g A xs

theorem Cur.lt {w : World} {g : Nat} {xs : List UInt8} {bad : Bool} (h : Cur w g xs bad) : g < w.heap.size := by
  obtain ⟨A, c, hg, _⟩ := h
  exact (Array.getElem?_eq_some_iff.1 hg).1
theorem Cur.below {w w' : World} {g : Nat} {xs : List UInt8} {bad : Bool} (h : Cur w g xs bad) (hb : Below w.heap.size w w') : Cur w' g xs bad := by
  have hlt := h.lt
  obtain ⟨A, c, hg, h1, h2, h3⟩ := h
  exact ⟨A, c, (hb.block g hlt).trans hg, h1, h2, h3.below (hb.mono (by omega))⟩

/-- From answers a cursor. -/
def RetCur (w : World) (xs : List UInt8) (e : Ending) (w' : World) : Prop :=
  ∃ g, e = .returned (.pointer (some ⟨g, 0, none⟩)) ∧ w.heap.size ≤ g ∧ Cur w' g xs false ∧ Below w.heap.size w w'

set_option maxRecDepth 100000 in
set_option maxHeartbeats 400000 in
theorem from_any (A : Option Addr) (n c : Nat) (xs : List UInt8) (w : World) (h : Lies w w.heap.size A xs) (hn : n = xs.length) (hm : n ≤ 140737488355328) :
    Calls Try.prog 31 #[.slice A n c] w (RetCur w xs) := by
  have Hn := Lib.hid hn
  clear hn
  go_enter Try.func31, Try.ntmps31
  go_wp2_with fail
  refine (clone_any _ _ _ xs _ h Hn.out hm).mono ?_
  rintro e w1 ⟨A1, c1, rfl, hc1, hm1, hl1, hb1, _⟩
  have hbb := hb1.alloc hb1.size (.cells #[.slice A1 xs.length c1, .bool false] 78)
  go_wp2_with fail
  go_ret
  exact ⟨w1.heap.size, rfl, hb1.size, ⟨A1, c1, heap_alloc_new w1 _, hc1, hm1, hl1.alloc (Nat.le_refl _) _⟩, hbb⟩

/-- A call on the cursor that answers bytes: only the cursor turns. -/
def RetRowG (w : World) (g : Nat) (ys : List UInt8) (e : Ending) (w' : World) : Prop :=
  ∃ A c, e = .returned (.slice A ys.length c) ∧ ys.length ≤ c ∧ c ≤ maxLen ∧ Lies w' w'.heap.size A ys ∧ w.grownBy w' (some g)
def cutBad (xs : List UInt8) (bad : Bool) (n : Int) : Bool := bad || decide (n < 0 ∨ xs.length < n)
def cutRest (xs : List UInt8) (bad : Bool) (n : Int) : List UInt8 := if cutBad xs bad n = true then xs else xs.drop n.toNat
def cutGot (xs : List UInt8) (bad : Bool) (n : Int) : List UInt8 := if cutBad xs bad n = true then List.replicate (min n.toNat 256) 0 else xs.take n.toNat
def RetCut (w : World) (g : Nat) (xs : List UInt8) (bad : Bool) (n : Int) (e : Ending) (w' : World) : Prop :=
  RetRowG w g (cutGot xs bad n) e w' ∧ Cur w' g (cutRest xs bad n) (cutBad xs bad n)

section
variable {w : World} {g : Nat} {A : Option Addr} {L c : Nat} {bad : Bool}
theorem cur_left (h : w.heap[g]? = some (.cells #[.slice A L c, .bool bad] 78 (0, 0))) : w.cell? ⟨g, 0, none⟩ = some (.slice A L c) := by rw [cell_of_row w g 0 _ 78 (0, 0) h]; rfl
theorem cur_bad (h : w.heap[g]? = some (.cells #[.slice A L c, .bool bad] 78 (0, 0))) : w.cell? ⟨g, 1, none⟩ = some (.bool bad) := by rw [cell_of_row w g 1 _ 78 (0, 0) h]; rfl
theorem cur_frozen (h : w.heap[g]? = some (.cells #[.slice A L c, .bool bad] 78 (0, 0))) (i : Nat) : w.frozen? ⟨g, i, none⟩ = false := frozen_of_row w g i _ 78 h
theorem cur_set_bad (h : w.heap[g]? = some (.cells #[.slice A L c, .bool bad] 78 (0, 0))) (b : Bool) : (w.setCell ⟨g, 1, none⟩ (.bool b)).heap[g]? = some (.cells #[.slice A L c, .bool b] 78 (0, 0)) := heap_setCell_same w g 1 _ 78 _ h
theorem cur_set_left (h : w.heap[g]? = some (.cells #[.slice A L c, .bool bad] 78 (0, 0))) (A' : Option Addr) (L' c' : Nat) : (w.setCell ⟨g, 0, none⟩ (.slice A' L' c')).heap[g]? = some (.cells #[.slice A' L' c', .bool bad] 78 (0, 0)) := heap_setCell_same w g 0 _ 78 _ h
theorem grown_setCell (w : World) (g i : Nat) (v : Value) : w.grownBy (w.setCell ⟨g, i, none⟩ v) (some g) :=
  ⟨rfl, rfl, rfl, by simp [World.setCell], fun k _ hk => Below.heap_setCell _ _ _ _ (fun e => hk (by simp [e]))⟩
theorem grown_trans' {a b d : World} {row : Option Nat} (h : a.grownBy b row) (k : b.grownBy d row) : a.grownBy d row :=
  ⟨k.os.trans h.os, k.tape.trans h.tape, k.output.trans h.output, Nat.le_trans h.size k.size, fun i hi hne => (k.block i (Nat.lt_of_lt_of_le hi h.size) hne).trans (h.block i hi hne)⟩
end

theorem fill_nil (k : Nat) : fill [] k = List.replicate k 0 := by simp [fill]

/-- The tail of Bytes where the cursor is invalid: new noughts. -/
theorem bytes_zeros {w0 w w1 : World} {g k B : Nat} {xs : List UInt8} (h0 : w0.grownBy w (some g)) (hc : Cur w g xs true) (hown : w1.ownsRow B 5 1 (.slice (some ⟨B, 0, none⟩) k k) k (madeCells #[Value.int .u8 0] k).toList) (hgrow : w.grownBy w1 none) :
    RetRowG w0 g (List.replicate k 0) (.returned (.slice (some ⟨B, 0, none⟩) k k)) w1 ∧ Cur w1 g xs true := by
  have hb : Below w.heap.size w w1 := (Below.refl _ _).grown hgrow (Nat.le_refl _) (by simp)
  refine ⟨?_, hc.below hb⟩
  rw [fill_made, fill_nil] at hown
  obtain ⟨A, c, hv, hn, hnc, hcm, hl⟩ := Lies.of_own hown
  exact ⟨A, c, by rw [hv], by rw [← hn]; exact hnc, hcm, hl, grown_trans' h0 (grown_of_below hb _)⟩

set_option maxRecDepth 100000 in
set_option maxHeartbeats 400000 in
/-- Bytes where the cursor is invalid, or becomes so. -/
theorem bytes_no (w : World) (g : Nat) (xs : List UInt8) (bad : Bool) (n : Int) (k : Nat) (h : Cur w g xs bad) (hb : bad = true ∨ n < 0 ∨ xs.length < n) (hn : n < 0 ∧ k = 0 ∨ 0 ≤ n ∧ n ≤ 256 ∧ n = k ∨ 256 < n ∧ k = 256) :
    Calls Try.prog 46 #[.pointer (some ⟨g, 0, none⟩), .int .i64 n] w fun e w' => RetRowG w g (List.replicate k 0) e w' ∧ Cur w' g xs true := by
  obtain ⟨i0, hi, hz0, hz1, hz2⟩ := info_parts Try.info5
  have hc := h
  obtain ⟨A, c, hg, hlc, hcm, hl⟩ := h
  have c0 := cur_left hg
  have c1 := cur_bad hg
  have f1 := cur_frozen hg 1
  have hcur : Cur (w.setCell ⟨g, 1, none⟩ (.bool true)) g xs true := ⟨A, c, cur_set_bad hg true, hlc, hcm, hl.setCell (Nat.le_refl _) _⟩
  have hgs := grown_setCell w g 1 (.bool true)
  have hcm' : c ≤ 9223372036854775807 := by unfold maxLen at hcm; exact hcm
  by_cases hneg : n < 0
  · obtain rfl : k = 0 := by omega
    clear hg hl hb hn hc
    go_enter Try.func46, Try.ntmps46
    go_wp2_with (at_make; refine wpList_make_full _ rfl _ _ 66 rfl w.heap.size 5 i0 (.int .u8 0) 1 Try.underlying66 hi hz0 hz1 _ _ _ _ 0 rfl rfl (by omega) (by omega) (by rw [hz2]; omega) (by unfold maxLen; omega) (by simp) ?_)
    intro w1 hown hgrow
    have R := bytes_zeros hgs hcur hown hgrow
    go_wp2_with fail
    go_ret
    exact R
  · have hd : decide (n < 0) = false := by simp; omega
    have hm : ∃ m : Int, m = k ∧ (n ≤ 256 ∧ n = m ∨ 256 < n ∧ 256 = m) := ⟨k, rfl, by omega⟩
    obtain ⟨m, hmk, hm⟩ := hm
    have Hm : Hid (m = k) := hmk
    have hk256 : k ≤ 256 := by omega
    clear hmk
    rcases hm with ⟨hn1, rfl⟩ | ⟨hn1, rfl⟩
    all_goals
      by_cases hgt : xs.length < n
      · clear hg hl hb hn hc
        go_enter Try.func46, Try.ntmps46
        go_wp2_with (at_make; refine wpList_make_full _ rfl _ _ 66 rfl w.heap.size 5 i0 (.int .u8 0) 1 Try.underlying66 hi hz0 hz1 _ _ _ _ k rfl rfl Hm.out Hm.out (by rw [hz2]; omega) (by unfold maxLen; omega) (by simp) ?_)
        intro w1 hown hgrow
        have R := bytes_zeros hgs hcur hown hgrow
        go_wp2_with fail
        go_ret
        exact R
      · have hd2 : decide ((xs.length : Int) < n) = false := by simp; omega
        obtain rfl : bad = true := by rcases hb with hb | hb | hb <;> first | exact hb | omega
        clear hg hl hb hn
        go_enter Try.func46, Try.ntmps46
        go_wp2_with (at_make; refine wpList_make_full _ rfl _ _ 66 rfl w.heap.size 5 i0 (.int .u8 0) 1 Try.underlying66 hi hz0 hz1 _ _ _ _ k rfl rfl Hm.out Hm.out (by rw [hz2]; omega) (by unfold maxLen; omega) (Nat.le_refl _) ?_)
        intro w1 hown hgrow
        have R := bytes_zeros (World.grownBy.refl w _) hc hown hgrow
        go_wp2_with fail
        go_ret
        exact R

set_option maxRecDepth 100000 in
set_option maxHeartbeats 400000 in
/-- Bytes where they are there. -/
theorem bytes_yes (w : World) (g : Nat) (xs : List UInt8) (k : Nat) (h : Cur w g xs false) (hk : k ≤ xs.length) (hx : xs.length ≤ 140737488355328) :
    Calls Try.prog 46 #[.pointer (some ⟨g, 0, none⟩), .int .i64 (k : Int)] w fun e w' => RetRowG w g (xs.take k) e w' ∧ Cur w' g (xs.drop k) false := by
  have hlt := h.lt
  obtain ⟨A, c, hg, hlc, hcm, hl⟩ := h
  have c0 := cur_left hg
  have c1 := cur_bad hg
  have hcm' : c ≤ 9223372036854775807 := by unfold maxLen at hcm; exact hcm
  have hd : decide ((k : Int) < 0) = false := by simp
  have hd2 : decide ((xs.length : Int) < (k : Int)) = false := by simp; omega
  have hd3 : decide (xs.length < k) = false := by simp; omega
  go_enter Try.func46, Try.ntmps46
  go_wp2_with fail
  refine (clone_any _ _ _ (xs.take k) _ ?_ ?_ ?_).mono ?_
  · exact (hl.take k).le (by omega)
  · rw [List.length_take]; omega
  · omega
  rintro e w1 ⟨A1, k1, rfl, hk1, hm1, hl1, hb1, hf1⟩
  have hg1 := (hb1.block g hlt).trans hg
  have d0 := cur_left hg1
  have f0 := cur_frozen hg1 0
  have hl1' := hl.below (hb1.mono (by omega))
  have hdr := hl1'.drop (k := k) hlc
  have hs1 := fun A' => cur_set_left hg1 A' (xs.length - k) (c - k)
  have hgg := fun v => grown_trans' (grown_of_below hb1 (some g)) (grown_setCell w1 g 0 v)
  have R : ∀ A', A' = (if c = k then A else A.map (·.add k)) → RetRowG w g (xs.take k) (.returned (.slice A1 (xs.take k).length k1)) (w1.setCell ⟨g, 0, none⟩ (.slice A' (xs.length - k) (c - k))) ∧
      Cur (w1.setCell ⟨g, 0, none⟩ (.slice A' (xs.length - k) (c - k))) g (xs.drop k) false := by
    rintro A' rfl
    refine ⟨⟨A1, k1, rfl, hk1, hm1, ?_, hgg _⟩, ⟨_, c - k, ?_, ?_, ?_, hdr.setCell (Nat.le_refl _) _⟩⟩
    · exact (hl1.set_fresh hf1 hlt _).le (by simp [World.setCell])
    · rw [List.length_drop]; exact hs1 _
    · rw [List.length_drop]; omega
    · omega
  have hlen : (xs.take k).length = k := by rw [List.length_take]; omega
  rw [hlen] at R
  have HR := Lib.hid R
  clear hg hg1 hl hl1 hl1' hdr hs1 hgg c0 c1 R hlen
  by_cases hck : c = k
  · have R0 := HR.out A (by rw [if_pos hck])
    rw [show c - k = 0 by omega, show xs.length - k = 0 by omega] at R0
    have HR0 := Lib.hid R0
    clear R0 HR
    subst hck
    go_wp2_with fail
    go_ret
    exact HR0.out
  · have HR1 := Lib.hid (HR.out (A.map (·.add k)) (by rw [if_neg hck]))
    clear HR
    go_wp2_with fail
    go_ret
    exact HR1.out

theorem bytes_any (w : World) (g : Nat) (xs : List UInt8) (bad : Bool) (n : Int) (h : Cur w g xs bad) (hx : xs.length ≤ 140737488355328) :
    Calls Try.prog 46 #[.pointer (some ⟨g, 0, none⟩), .int .i64 n] w (RetCut w g xs bad n) := by
  unfold RetCut cutGot cutRest
  cases hb : cutBad xs bad n
  · simp only [cutBad, Bool.or_eq_false_iff, decide_eq_false_iff_not] at hb
    obtain ⟨rfl, hn⟩ := hb
    obtain ⟨k, rfl⟩ := Int.eq_ofNat_of_zero_le (show 0 ≤ n by omega)
    simp only [Int.toNat_natCast, Bool.false_eq_true, if_false]
    exact bytes_yes w g xs k h (by omega) hx
  · simp only [cutBad, Bool.or_eq_true, decide_eq_true_eq] at hb
    simp only [if_true]
    exact bytes_no w g xs bad n _ h hb (by omega)

/-- A call on the cursor that answers v: only the cursor turns. -/
def RetG (w : World) (g : Nat) (v : Value) (xs : List UInt8) (bad : Bool) (e : Ending) (w' : World) : Prop := e = .returned v ∧ Cur w' g xs bad ∧ w.grownBy w' (some g)

set_option maxRecDepth 100000 in
theorem num_any (w : World) (g : Nat) (xs : List UInt8) (bad : Bool) (n : Int) (h : Cur w g xs bad) (hx : xs.length ≤ 140737488355328) :
    Calls Try.prog 32 #[.pointer (some ⟨g, 0, none⟩), .int .i64 n] w (RetG w g (.int .u64 (leN ((cutGot xs bad n).take 8) : Nat)) (cutRest xs bad n) (cutBad xs bad n)) := by
  go_enter Try.func32, Try.ntmps32
  go_wp2_with fail
  refine (bytes_any w g xs bad n h hx).mono ?_
  rintro e w1 ⟨⟨A, c, rfl, h1, h2, h3, h4⟩, h5⟩
  go_wp2_with fail
  refine (get_n _ _ _ _ _ _ h3 rfl (by unfold maxLen at h2; omega)).mono ?_
  rintro e w2 ⟨rfl, rfl⟩
  go_wp2_with fail
  go_ret
  exact ⟨rfl, h5, h4⟩
end Go.Proofs.Ytmcnhcbibcjgnaa
namespace Go.Proofs.Ytmcnhcbibcjgnaa
open Go.RowKit
set_option linter.unusedVariables false

theorem Cur.drewN {w : World} {g : Nat} {xs : List UInt8} {bad : Bool} (h : Cur w g xs bad) (m : Nat) : Cur (w.drewN m) g xs bad := h
theorem grown_drewN {a w : World} {row : Option Nat} (h : a.grownBy w row) (m : Nat) : a.grownBy (w.drewN m) row := ⟨h.os, h.tape, h.output, h.size, h.block⟩
theorem Cur.spoil {w : World} {g : Nat} {xs : List UInt8} {bad : Bool} (h : Cur w g xs bad) : Cur (w.setCell ⟨g, 1, none⟩ (.bool true)) g xs true := by
  obtain ⟨A, c, hg, hlc, hcm, hl⟩ := h
  exact ⟨A, c, cur_set_bad hg true, hlc, hcm, hl.setCell (Nat.le_refl _) _⟩

set_option maxRecDepth 100000 in
set_option maxHeartbeats 400000 in
theorem text_any (w : World) (g : Nat) (xs : List UInt8) (bad : Bool) (n : Int) (h : Cur w g xs bad) (hx : xs.length ≤ 140737488355328) :
    Calls Try.prog 47 #[.pointer (some ⟨g, 0, none⟩), .int .i64 n] w
      (RetG w g (.string ⟨(unpadS (cutGot xs bad n)).toArray⟩) (cutRest xs bad n) (cutBad xs bad n || (unpadO (cutGot xs bad n)).isNone)) := by
  go_enter Try.func47, Try.ntmps47
  go_wp2_with fail
  refine (bytes_any w g xs bad n h hx).mono ?_
  rintro e w1 ⟨⟨A, c, rfl, h1, h2, h3, h4⟩, h5⟩
  have h2' : c ≤ 9223372036854775807 := by unfold maxLen at h2; exact h2
  go_wp2_with fail
  refine (unpad_any (cutGot xs bad n) _ _ _ _ _ rfl h1 h2' h3).mono ?_
  rintro e w2 ⟨rfl, m, rfl⟩
  have hcur := (h5.drewN m)
  have hgr := grown_drewN h4 m
  cases ho : unpadO (cutGot xs bad n) with
  | none =>
    have hv : unpadV (cutGot xs bad n) = .tuple #[.string ⟨#[]⟩, .int .i64 3] := by simp [unpadV, unpadS, unpadC, ho]
    have hs : Hid (unpadS (cutGot xs bad n) = []) := by show _ = _; simp [unpadS, ho]
    have Ho := Lib.hid ho
    rw [hv]
    have hsp := hcur.spoil
    obtain ⟨A', c', hg, _⟩ := hcur
    have q1 := cur_bad hg
    have f1 := cur_frozen hg 1
    have hgg := grown_trans' hgr (grown_setCell (w1.drewN m) g 1 (.bool true))
    clear hv ho h1 h2 h3 h4 h5 hg hgr
    go_wp2_with fail
    go_ret
    refine ⟨by rw [hs.out]; rfl, ?_, hgg⟩
    rw [Ho.out]
    simpa using hsp
  | some t =>
    have hv : unpadV (cutGot xs bad n) = .tuple #[.string ⟨t.toArray⟩, .int .i64 0] := by simp [unpadV, unpadS, unpadC, ho]
    have hs : Hid (unpadS (cutGot xs bad n) = t) := by show _ = _; simp [unpadS, ho]
    have Ho := Lib.hid ho
    rw [hv]
    clear hv ho h1 h2 h3 h4 h5
    go_wp2_with fail
    go_ret
    refine ⟨by rw [hs.out]; rfl, ?_, hgr⟩
    rw [Ho.out]
    simpa using hcur
end Go.Proofs.Ytmcnhcbibcjgnaa
namespace Go.Proofs.Ytmcnhcbibcjgnaa
open Go.RowKit
set_option linter.unusedVariables false
set_option linter.unusedSimpArgs false

theorem put2 (N : Nat) (w : World) (hN : N < 18446744073709551616) : Calls Try.prog 34 #[.int .u64 (N : Int), .int .i64 2] w (RetRow w (putB N 2)) := put_any N 2 w (by omega) hN
theorem put8 (N : Nat) (w : World) (hN : N < 18446744073709551616) : Calls Try.prog 34 #[.int .u64 (N : Int), .int .i64 8] w (RetRow w (putB N 8)) := put_any N 8 w (by omega) hN

theorem cut_no {xs : List UInt8} {k : Nat} (h : k ≤ xs.length) : cutBad xs false (k : Int) = false := by
  simp [cutBad]
  omega
theorem num_yes (w : World) (g : Nat) (xs : List UInt8) (k : Nat) (h : Cur w g xs false) (hk : k ≤ xs.length) (h8 : k ≤ 8) (hx : xs.length ≤ 140737488355328) :
    Calls Try.prog 32 #[.pointer (some ⟨g, 0, none⟩), .int .i64 (k : Int)] w (RetG w g (.int .u64 (leN (xs.take k) : Nat)) (xs.drop k) false) := by
  have := num_any w g xs false k h hx
  unfold cutGot cutRest at this
  rw [cut_no hk] at this
  simp only [Bool.false_eq_true, if_false, Int.toNat_natCast] at this
  rwa [List.take_of_length_le (show (xs.take k).length ≤ 8 by rw [List.length_take]; omega)] at this
theorem num2 (w : World) (g : Nat) (xs : List UInt8) (h : Cur w g xs false) (hk : 2 ≤ xs.length) (hx : xs.length ≤ 140737488355328) :
    Calls Try.prog 32 #[.pointer (some ⟨g, 0, none⟩), .int .i64 2] w (RetG w g (.int .u64 (leN (xs.take 2) : Nat)) (xs.drop 2) false) := num_yes w g xs 2 h hk (by omega) hx
theorem num8 (w : World) (g : Nat) (xs : List UInt8) (h : Cur w g xs false) (hk : 8 ≤ xs.length) (hx : xs.length ≤ 140737488355328) :
    Calls Try.prog 32 #[.pointer (some ⟨g, 0, none⟩), .int .i64 8] w (RetG w g (.int .u64 (leN (xs.take 8) : Nat)) (xs.drop 8) false) := num_yes w g xs 8 h hk (by omega) hx
theorem leN_two (xs : List UInt8) : leN (xs.take 2) < 65536 := by
  have h1 := leN_lt (xs.take 2)
  have h2 : (256 : Nat) ^ (xs.take 2).length ≤ 256 ^ 2 := Nat.pow_le_pow_right (by omega) (by rw [List.length_take]; omega)
  omega
theorem leN_eight (xs : List UInt8) : leN (xs.take 8) < 18446744073709551616 := by
  have h1 := leN_lt (xs.take 8)
  have h2 : (256 : Nat) ^ (xs.take 8).length ≤ 256 ^ 8 := Nat.pow_le_pow_right (by omega) (by rw [List.length_take]; omega)
  omega
theorem Cur.grown_above {w w' : World} {g k : Nat} {xs : List UInt8} {bad : Bool} (h : Cur w g xs bad) (hg : w.grownBy w' (some k)) (hk : g < k) : Cur w' g xs bad := by
  have hlt := h.lt
  obtain ⟨A, c, hc, h1, h2, h3⟩ := h
  exact ⟨A, c, (hg.block g hlt (fun e => by injection e with e; omega)).trans hc, h1, h2, h3.grown hg (by omega) (fun j e => by injection e with e; omega)⟩
end Go.Proofs.Ytmcnhcbibcjgnaa
