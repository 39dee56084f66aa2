/-
  Layer 10: a map of slots in memory; the contracts of New, Len, has, Get, shift.
  Layer 10: the contracts of Set, of slices.Clone at bytes, of Copy.
-/
import Derived.Test.YticlbefbnfnlmaaPkSlmP
import Derived.Test.YticlbefbnfnlmaaPkSlot
import Derived.Test.YticlbefbnfnlmaaPkRet
import Derived.Test.YticlbefbnfnlmaaPkBuild
import Derived.Test.YticlbefbnfnlmaaPkApp
namespace Go.Proofs.Yticlbefbnfnlmaa
open Go.RowKit
set_option linter.unusedVariables false

theorem still_of10 {P : Program} {f : FuncId} {args : Array Value} {w : World} {v : Value} (h : Calls P f args w fun e w' => e = .returned v ∧ w' = w) : Calls P f args w fun e w' => e = .returned v ∧ w' = w := h
/-- The map at block b: its states in block g. -/
structure MapAt (w : World) (b g c : Nat) (ss : List UInt8) : Prop where
  ptr : One w b (.slice (some ⟨g, 0, none⟩) ss.length c) 51
  row : w.ownsRow 0 5 1 (.slice (some ⟨g, 0, none⟩) ss.length c) ss.length (cells ss)
  pos : 1 ≤ ss.length
  le : ss.length ≤ 200
  ok : Ok10 ss

section
variable {w w' : World} {b g c : Nat} {ss : List UInt8}
theorem MapAt.blt (h : MapAt w b g c ss) : b < w.heap.size := h.ptr.lt
theorem MapAt.glt (h : MapAt w b g c ss) : g < w.heap.size := own_lt h.row rfl
theorem MapAt.ne (h : MapAt w b g c ss) : b ≠ g := by
  rintro rfl
  have h1 : RowV w b 51 [.slice (some ⟨b, 0, none⟩) ss.length c] := h.ptr
  exact own_row_apart h.row h1 (by decide) rfl
theorem MapAt.cap (h : MapAt w b g c ss) : ss.length ≤ c ∧ c ≤ maxLen := by
  obtain ⟨A, c', hv, h1, h2⟩ := own_slice h.row
  injection hv with _ _ h3
  subst h3
  exact ⟨h1, h2⟩
theorem MapAt.cell (h : MapAt w b g c ss) {i : Nat} (hi : i < ss.length) : w.cell? ⟨g, i, none⟩ = some (.int .u8 ((ss.getD i 0).toNat : Int)) := by
  have h1 := h.row.cells (g := g) rfl i (.int .u8 ((ss.getD i 0).toNat : Int)) (cells_get (by rw [List.getD_eq_getElem?_getD, List.getElem?_eq_getElem hi]; rfl))
  rwa [Addr.add_lit, Nat.zero_add] at h1
theorem MapAt.free (h : MapAt w b g c ss) (i : Nat) : w.frozen? ⟨g, i, none⟩ = false := h.row.frozenAt _
theorem MapAt.keep (h : MapAt w b g c ss) {row : Option Nat} (hg : w.grownBy w' row) (hb : row ≠ some b) (hr : row ≠ some g) : MapAt w' b g c ss :=
  ⟨(hg.block b h.blt (fun e => hb e.symm)).trans h.ptr, h.row.kept hg (.inr (fun e => hr e.symm)), h.pos, h.le, h.ok⟩
theorem MapAt.below {B : Nat} (h : MapAt w b g c ss) (hB : Below B w w') (h1 : b < B) (h2 : g < B) : MapAt w' b g c ss :=
  ⟨h.ptr.below hB h1, own_but h.row (But.of [] hB) (fun k e => by cases e; exact ⟨h2, by simp⟩), h.pos, h.le, h.ok⟩
theorem MapAt.later (h : MapAt w b g c ss) (hB : Below w.heap.size w w') : MapAt w' b g c ss := h.below hB h.blt h.glt
theorem MapAt.drew (h : MapAt w b g c ss) : MapAt w.drew b g c ss := ⟨h.ptr, h.row, h.pos, h.le, h.ok⟩
theorem MapAt.set (h : MapAt w b g c ss) {i : Nat} {x : UInt8} (hx : x.toNat ≤ 2) : MapAt (w.setCell ⟨g, i, none⟩ (.int .u8 (x.toNat : Int))) b g c (ss.set i x) := by
  have h1 := (h.row.stored i (.int .u8 (x.toNat : Int))).1
  refine ⟨?_, ?_, by rw [List.length_set]; exact h.pos, by rw [List.length_set]; exact h.le, h.ok.set i hx⟩
  · rw [List.length_set]
    exact h.ptr.other (by exact h.ne) _
  · rw [List.length_set]
    have e : cells (ss.set i x) = (cells ss).set i (.int .u8 (x.toNat : Int)) := by simp [cells, List.map_set]
    rw [e]
    exact h1
end

/-- New: a map, or none. -/
def NewV (w w' : World) (n : Int) (e : Ending) : Prop :=
  if 1 ≤ n ∧ n ≤ 200 then ∃ b g c, e = .returned (.tuple #[.pointer (some ⟨b, 0, none⟩), .int .i64 0]) ∧ MapAt w' b g c (List.replicate n.toNat 0) ∧ w.heap.size ≤ b ∧ w.heap.size ≤ g ∧ Below w.heap.size w w'
  else e = .returned (.tuple #[.pointer none, .int .i64 2]) ∧ w' = w

theorem zeros_u8 (n : Nat) : (madeCells #[Value.int .u8 0] n).toList = cells (List.replicate n 0) := by rw [fill_made]; simp [fill]

set_option maxRecDepth 100000 in
set_option maxHeartbeats 1000000 in
theorem snew_any (w : World) (n : Int) : Calls Try.prog 7 #[.int .i64 n] w fun e w' => NewV w w' n e := by
  obtain ⟨i0, hi, hz0, hz1, hz2⟩ := info_parts Try.info5
  unfold NewV
  by_cases h : 1 ≤ n ∧ n ≤ 200
  · obtain ⟨h1, h2⟩ := h
    obtain ⟨k, rfl⟩ : ∃ k : Nat, n = k := ⟨n.toNat, by omega⟩
    have hc : (1 ≤ (k : Int) ∧ (k : Int) ≤ 200) = True := eq_true ⟨h1, h2⟩
    simp only [hc, if_true, Int.toNat_natCast]
    clear hc
    go_enter Try.func7, Try.ntmps7
    go_wp2_with (at_make; refine wpList_make_full _ rfl _ _ 41 rfl w.heap.size 5 i0 (.int .u8 0) 1 Try.underlying41 hi hz0 hz1 .i64 .i64 _ _ k rfl rfl rfl rfl (by rw [hz2]; omega) (by unfold maxLen; omega) (Nat.le_refl _) ?_)
    intro w1 hown hg1
    rw [zeros_u8] at hown
    have hb1 : Below w.heap.size w w1 := (Below.refl _ _).grown hg1 (Nat.le_refl _) (by simp)
    go_wp2_with fail
    go_ret2
    have hp : One (w1.alloc (.cells #[.slice (some ⟨w.heap.size, 0, none⟩) k k] 51)) w1.heap.size (.slice (some ⟨w.heap.size, 0, none⟩) k k) 51 := One.new w1 _ _
    have hr := own_rebase (base' := 0) (hown.alloc (.cells #[.slice (some ⟨w.heap.size, 0, none⟩) k k] 51)) (fun _ _ => Nat.zero_le _)
    refine ⟨w1.heap.size, w.heap.size, k, rfl, ⟨?_, ?_, by simp; omega, by simp; omega, Ok10.zero k⟩, hb1.size, Nat.le_refl _, hb1.alloc hb1.size _⟩
    · rw [List.length_replicate]; exact hp
    · rw [List.length_replicate]; exact hr
  · simp only [if_neg h]
    go_enter Try.func7, Try.ntmps7
    go_wp2_with fail
    all_goals
      go_ret2
      exact ⟨rfl, rfl⟩

set_option maxRecDepth 100000 in
theorem slen_any (w : World) (b g c : Nat) (ss : List UInt8) (h : MapAt w b g c ss) :
    Calls Try.prog 18 #[.pointer (some ⟨b, 0, none⟩)] w fun e w' => e = .returned (.int .i64 (ss.length : Int)) ∧ w' = w := by
  have c0 := h.ptr.cell
  clear h
  go_enter Try.func18, Try.ntmps18
  go_wp2_with fail
  go_ret
  exact ⟨rfl, rfl⟩

set_option maxRecDepth 100000 in
theorem shas_any (w : World) (b g c : Nat) (ss : List UInt8) (h : MapAt w b g c ss) (i : Int) :
    Calls Try.prog 24 #[.pointer (some ⟨b, 0, none⟩), .int .i64 i] w fun e w' => e = .returned (.bool (decide (0 ≤ i ∧ i < ss.length))) ∧ w' = w := by
  have c0 := h.ptr.cell
  have hle := h.le
  clear h
  by_cases h0 : 0 ≤ i
  · have hd : decide (0 ≤ i ∧ i < (ss.length : Int)) = decide (i < (ss.length : Int)) := by simp [h0]
    rw [hd]
    clear hd
    go_enter Try.func24, Try.ntmps24
    go_wp2_with fail
    all_goals
      go_ret
      exact ⟨rfl, rfl⟩
  · have hd : decide (0 ≤ i ∧ i < (ss.length : Int)) = false := by simp; omega
    rw [hd]
    clear hd
    go_enter Try.func24, Try.ntmps24
    go_wp2_with fail
    all_goals
      go_ret
      exact ⟨rfl, rfl⟩

set_option maxRecDepth 100000 in
theorem sget_any (w : World) (b g c : Nat) (ss : List UInt8) (h : MapAt w b g c ss) (i : Int) :
    Calls Try.prog 21 #[.pointer (some ⟨b, 0, none⟩), .int .i64 i] w fun e w' => e = .returned (.int .i64 (getS10 ss i)) ∧ w' = w := by
  have c0 := h.ptr.cell
  have hle := h.le
  by_cases hh : 0 ≤ i ∧ i < (ss.length : Int)
  · obtain ⟨k, rfl⟩ : ∃ k : Nat, i = k := ⟨i.toNat, by omega⟩
    have hk : k < ss.length := by omega
    have hk' : (k : Int) < (ss.length : Int) := hh.2
    have c1 := h.cell hk
    have hg : getS10 ss (k : Int) = ((ss.getD k 0).toNat : Int) := by unfold getS10; rw [if_pos hh]; rfl
    have hd : decide (0 ≤ (k : Int) ∧ (k : Int) < (ss.length : Int)) = true := by simp; omega
    have hb : (ss.getD k 0).toNat < 256 := (ss.getD k 0).toNat_lt
    rw [hg]
    have Hd := Lib.hid hd
    have Hh := Lib.hid h
    clear hg hd h hh
    generalize (ss.getD k 0).toNat = x at *
    go_enter Try.func21, Try.ntmps21
    go_wp2_with fail
    refine (shas_any _ b g c ss Hh.out (k : Int)).mono ?_
    rintro e w1 ⟨rfl, rfl⟩
    rw [Hd.out]
    go_wp2_with fail
    go_ret
    exact ⟨rfl, rfl⟩
  · have hg : getS10 ss i = -1 := by unfold getS10; rw [if_neg hh]
    have hd : decide (0 ≤ i ∧ i < (ss.length : Int)) = false := by simp; omega
    rw [hg]
    have Hd := Lib.hid hd
    have Hh := Lib.hid h
    clear hg hd h hh
    go_enter Try.func21, Try.ntmps21
    go_wp2_with fail
    refine (shas_any _ b g c ss Hh.out i).mono ?_
    rintro e w1 ⟨rfl, rfl⟩
    rw [Hd.out]
    go_wp2_with fail
    go_ret
    exact ⟨rfl, rfl⟩

set_option maxRecDepth 100000 in
theorem sshift_any (w : World) (k : Nat) (hk : k ≤ 200) :
    Calls Try.prog 28 #[.int .i64 (k : Int)] w fun e w' => e = .returned (.int .i64 ((2 * (k % 4) : Nat) : Int)) ∧ w' = w := by
  go_enter Try.func28, Try.ntmps28
  go_wp2_with fail
  go_ret
  exact ⟨by show Ending.returned (Value.int IntKind.i64 ((k : Int) % 4 * 2)) = _; rw [show (k : Int) % 4 * 2 = ((2 * (k % 4) : Nat) : Int) by omega], rfl⟩
end Go.Proofs.Yticlbefbnfnlmaa
namespace Go.Proofs.Yticlbefbnfnlmaa
open Go.RowKit
set_option linter.unusedVariables false

theorem grown_cell10 (w : World) (g i : Nat) (v : Value) : w.grownBy (w.setCell ⟨g, i, none⟩ v) (some g) :=
  ⟨rfl, rfl, rfl, by simp [World.setCell], fun k _ hk => Below.heap_setCell _ _ _ _ (fun e => hk (by simp [e]))⟩
theorem u8_conv (x : Int) (h1 : 0 ≤ x) (h2 : x ≤ 2) : x = ((UInt8.ofNat x.toNat).toNat : Int) ∧ (UInt8.ofNat x.toNat).toNat ≤ 2 := by
  have : (UInt8.ofNat x.toNat).toNat = x.toNat := by rw [UInt8.toNat_ofNat']; omega
  omega

set_option maxRecDepth 100000 in
set_option maxHeartbeats 1000000 in
theorem sset_any (w : World) (b g c : Nat) (ss : List UInt8) (h : MapAt w b g c ss) (i what : Int) :
    Calls Try.prog 10 #[.pointer (some ⟨b, 0, none⟩), .int .i64 i, .int .i64 what] w fun e w' => e = .returned (.int .i64 (setC10 ss i what)) ∧ MapAt w' b g c (setM10 ss i what) ∧ w.grownBy w' (some g) ∧ w'.heap.size = w.heap.size := by
  have c0 := h.ptr.cell
  have hle := h.le
  have Hh := Lib.hid h
  by_cases hh : 0 ≤ i ∧ i < (ss.length : Int)
  · obtain ⟨k, rfl⟩ : ∃ k : Nat, i = k := ⟨i.toNat, by omega⟩
    have hk : k < ss.length := by omega
    have hk' : (k : Int) < (ss.length : Int) := hh.2
    have hd : decide (0 ≤ (k : Int) ∧ (k : Int) < (ss.length : Int)) = true := by simp; omega
    have Hd := Lib.hid hd
    by_cases hw : 0 ≤ what ∧ what ≤ 2
    · have Hc : Hid (setC10 ss k what = 0) := by show _ = _; unfold setC10; rw [if_pos hh, if_pos hw]
      have Hm : Hid (setM10 ss k what = ss.set k (UInt8.ofNat what.toNat)) := by show _ = _; unfold setM10; rw [if_pos Hc.out]; rfl
      obtain ⟨hx1, hx2⟩ := u8_conv what hw.1 hw.2
      have Hx := Lib.hid hx1
      have Hx2 := Lib.hid hx2
      obtain ⟨h0, h2⟩ := hw
      have c1 := h.cell hk
      have f1 := h.free k
      clear hd h hh hx1 hx2
      go_enter Try.func10, Try.ntmps10
      go_wp2_with fail
      refine (shas_any _ b g c ss Hh.out (k : Int)).mono ?_
      rintro e w1 ⟨rfl, rfl⟩
      rw [Hd.out]
      go_wp2_with fail
      go_ret
      rw [Hc.out, Hm.out]
      have hs := Hh.out.set (i := k) Hx2.out
      rw [← Hx.out] at hs
      exact ⟨rfl, hs, grown_cell10 _ g _ _, by simp⟩
    · have Hc : Hid (setC10 ss k what = 1) := by show _ = _; unfold setC10; rw [if_pos hh, if_neg hw]
      have Hm : Hid (setM10 ss k what = ss) := by show _ = _; unfold setM10; rw [if_neg (by rw [Hc.out]; decide)]
      clear hd h hh
      go_enter Try.func10, Try.ntmps10
      go_wp2_with fail
      refine (shas_any _ b g c ss Hh.out (k : Int)).mono ?_
      rintro e w1 ⟨rfl, rfl⟩
      rw [Hd.out]
      go_wp2_with fail
      all_goals
        go_ret
        rw [Hc.out, Hm.out]
        exact ⟨rfl, Hh.out, World.grownBy.refl _ _, rfl⟩
  · have Hc : Hid (setC10 ss i what = 2) := by show _ = _; unfold setC10; rw [if_neg hh]
    have Hm : Hid (setM10 ss i what = ss) := by show _ = _; unfold setM10; rw [if_neg (by rw [Hc.out]; decide)]
    have hd : decide (0 ≤ i ∧ i < (ss.length : Int)) = false := by simp; omega
    have Hd := Lib.hid hd
    clear hd h hh
    go_enter Try.func10, Try.ntmps10
    go_wp2_with fail
    refine (shas_any _ b g c ss Hh.out i).mono ?_
    rintro e w1 ⟨rfl, rfl⟩
    rw [Hd.out]
    go_wp2_with fail
    go_ret
    rw [Hc.out, Hm.out]
    exact ⟨rfl, Hh.out, World.grownBy.refl _ _, rfl⟩

set_option maxRecDepth 100000 in
set_option maxHeartbeats 1000000 in
theorem clone_u8 (w : World) (g n c : Nat) (xs : List UInt8) (h : w.ownsRow 0 5 1 (.slice (some ⟨g, 0, none⟩) n c) n (cells xs)) (hn : n ≤ 200) :
    Calls Try.prog 23 #[.slice (some ⟨g, 0, none⟩) n c] w fun e w' => ∃ A' c', e = .returned (.slice A' n c') ∧ w'.ownsRow w.heap.size 5 1 (.slice A' n c') n (cells xs) ∧ Below w.heap.size w w' := by
  obtain ⟨i0, hi, hz0, hz1, hz2⟩ := info_parts Try.info5
  have hg := own_lt h rfl
  have Hn : Hid (n = xs.length) := by show _ = _; have := h.1; simpa [cells_length] using this.symm
  have hl : Lies w w.heap.size (some ⟨g, 0, none⟩) xs := by
    obtain ⟨A, c', hv, _, _, _, hl⟩ := Lies.of_own h
    injection hv with e1
    subst e1
    exact hl
  have hown : (w.alloc (.cells #[] 5)).ownsRow w.heap.size 5 1 (.slice (some ⟨w.heap.size, 0, none⟩) 0 0) 0 (cells []) := World.ownsRow_lit w #[] 0 (Nat.le_refl _) (by unfold maxLen; omega) rfl
  have hl1 := hl.alloc (Nat.le_refl _) (.cells #[] 5)
  have hb1 : Below w.heap.size w (w.alloc (.cells #[] 5)) := (Below.refl _ _).alloc (Nat.le_refl _) _
  have hs1 := hb1.size
  have hq := fun W => eql_slice_nil (P := Try.prog) W (some ⟨g, 0, none⟩) n c Try.underlying41
  clear h hl
  go_enter Try.func23, Try.ntmps23
  go_wp2_with (at_builtin; refine wpList_append_lies rfl _ _ 41 rfl w.heap.size i0 Try.underlying41 hi hz0 hz1 hz2 _ 0 [] xs rfl hown w.heap.size _ _ _ rfl hl1 Hn.out (by omega) hs1 ?_)
  intro v' w2 hown2 hg2
  obtain ⟨A', c', rfl, _, _⟩ := own_slice hown2
  go_wp2_with fail
  go_ret
  exact ⟨A', c', rfl, hown2, hb1.grown hg2 hs1 (own_ge hown)⟩

set_option maxRecDepth 100000 in
set_option maxHeartbeats 1000000 in
theorem scopy_any (w : World) (b g c : Nat) (ss : List UInt8) (h : MapAt w b g c ss) :
    Calls Try.prog 8 #[.pointer (some ⟨b, 0, none⟩)] w fun e w' => ∃ b' g' c', e = .returned (.pointer (some ⟨b', 0, none⟩)) ∧ MapAt w' b' g' c' ss ∧ w.heap.size ≤ b' ∧ w.heap.size ≤ g' ∧ Below w.heap.size w w' := by
  have c0 := h.ptr.cell
  have Hh := Lib.hid h
  clear h
  go_enter Try.func8, Try.ntmps8
  go_wp2_with fail
  refine (clone_u8 w g _ c ss Hh.out.row Hh.out.le).mono ?_
  rintro e w1 ⟨A', c', rfl, hr1, hb1⟩
  obtain ⟨g', cap', hv, hcap, _, hg1, hg2⟩ := own_form hr1 (by have := Hh.out.pos; omega)
  injection hv with e1 e2 e3
  subst e1 e3
  clear c0
  go_wp2_with fail
  go_ret
  have hp : One (w1.alloc (.cells #[.slice (some ⟨g', 0, none⟩) ss.length c'] 51)) w1.heap.size (.slice (some ⟨g', 0, none⟩) ss.length c') 51 := One.new w1 _ _
  have hr := own_rebase (base' := 0) (hr1.alloc (.cells #[.slice (some ⟨g', 0, none⟩) ss.length c'] 51)) (fun _ _ => Nat.zero_le _)
  exact ⟨w1.heap.size, g', c', rfl, ⟨hp, hr, Hh.out.pos, Hh.out.le, Hh.out.ok⟩, hb1.size, hg1, hb1.alloc hb1.size _⟩
end Go.Proofs.Yticlbefbnfnlmaa
