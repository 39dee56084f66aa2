/-
  The contract of digest.Of: any pieces, one behind the other.
-/
import Derived.Test.YtmcbpifkclhfiaaDoorPkSumC
namespace Go.Proofs.YtmcbpifkclhfiaaDoor
open Go.RowKit
set_option linter.unusedVariables false

/-- A slice of bytes, and what it holds. -/
structure Piece where
  A : Option Addr
  n : Nat
  c : Nat
  xs : List UInt8
def Piece.ok (w : World) (B : Nat) (p : Piece) : Prop := Lies w B p.A p.xs ∧ p.n = p.xs.length ∧ p.n ≤ p.c ∧ p.c ≤ maxLen
/-- A slice of slices of bytes. -/
def PartsAt (w : World) (B : Nat) (L : Option Addr) (ps : List Piece) : Prop :=
  (ps ≠ [] → ∃ b o, L = some ⟨b, o, none⟩ ∧ b < B ∧ ∀ (i : Nat) (p : Piece), ps[i]? = some p → w.cell? ⟨b, o + i, none⟩ = some (.slice p.A p.n p.c)) ∧ ∀ p ∈ ps, p.ok w B
def flat (ps : List Piece) : List UInt8 := ps.flatMap (·.xs)
theorem flat_take_succ {ps : List Piece} {k : Nat} {p : Piece} (h : ps[k]? = some p) : flat (ps.take (k + 1)) = flat (ps.take k) ++ p.xs := by
  obtain ⟨hk, rfl⟩ := List.getElem?_eq_some_iff.1 h
  unfold flat
  rw [List.take_succ_eq_append_getElem hk, List.flatMap_append]
  simp
theorem flat_take_le (ps : List Piece) (k : Nat) : (flat (ps.take k)).length ≤ (flat ps).length := by
  conv => rhs; rw [← List.take_append_drop k ps]
  unfold flat
  rw [List.flatMap_append, List.length_append]
  omega
theorem PartsAt.nil (w : World) (B : Nat) (L : Option Addr) : PartsAt w B L [] := ⟨fun h => absurd rfl h, fun _ h => by cases h⟩
theorem Piece.ok.below {w w' : World} {B : Nat} {p : Piece} (h : p.ok w B) (hb : Below B w w') : p.ok w' B := ⟨h.1.below hb, h.2⟩
theorem PartsAt.below {w w' : World} {B : Nat} {L : Option Addr} {ps : List Piece} (h : PartsAt w B L ps) (hb : Below B w w') : PartsAt w' B L ps :=
  ⟨fun hne => by
    obtain ⟨b, o, e, hlt, hc⟩ := h.1 hne
    exact ⟨b, o, e, hlt, fun i p hi => (hb.cell (p := ⟨b, o + i, none⟩) hlt).trans (hc i p hi)⟩, fun p hp => (h.2 p hp).below hb⟩
theorem PartsAt.at_ {w : World} {B : Nat} {L : Option Addr} {ps : List Piece} (h : PartsAt w B L ps) {k : Nat} (hk : k < ps.length) : ∃ b o p, L = some ⟨b, o, none⟩ ∧ ps[k]? = some p ∧ w.cell? ⟨b, o + k, none⟩ = some (.slice p.A p.n p.c) ∧ p.ok w B := by
  obtain ⟨b, o, e, hlt, hc⟩ := h.1 (by rintro rfl; simp at hk)
  exact ⟨b, o, ps[k], e, List.getElem?_eq_getElem hk, hc k _ (List.getElem?_eq_getElem hk), h.2 _ (List.getElem_mem hk)⟩

set_option maxRecDepth 100000 in
theorem add_nil (g : Nat) (A : Option Addr) (c : Nat) (w : World) : Calls Tryd.prog 31 #[.pointer (some ⟨g, 0, none⟩), .slice A 0 c] w fun e w' => e = .returned (.tuple #[]) ∧ w = w' := by
  go_enter Tryd.func31, Tryd.ntmps31
  go_wp2_with fail
  refine wp_loop_rounds 1 ?_
  rw [rounds_succ]
  go_wp2
  go_end0
  exact ⟨rfl, rfl⟩
theorem add_lies (g : Nat) (m xs : List UInt8) (A : Option Addr) (n c : Nat) (w : World) (B : Nat) (hg0 : g ≠ 0) (hT : Tab w) (h : HashAt w g m) (hB : B ≤ w.heap.size) (hBg : B ≤ g) (hl : Lies w B A xs) (hn : n = xs.length) (hc : n ≤ c) (hm : c ≤ maxLen) (hbd : m.length + n ≤ 1000000000) :
    Calls Tryd.prog 31 #[.pointer (some ⟨g, 0, none⟩), .slice A n c] w fun e w' => e = .returned (.tuple #[]) ∧ HashAt w' g (m ++ xs) ∧ w.grownBy w' (some g) := by
  by_cases hx : xs = []
  · subst hx
    rw [List.length_nil] at hn
    subst hn
    refine (add_nil g A c w).mono ?_
    rintro e w' ⟨rfl, rfl⟩
    exact ⟨rfl, by rw [List.append_nil]; exact h, World.grownBy.refl _ _⟩
  · refine add_any g m xs A n c w B hg0 hT h hB hl ?_ hn hc hm hbd
    intro a ha
    obtain ⟨b, o, e, hb, _⟩ := hl hx
    rw [e] at ha
    injection ha with ha
    subst ha
    show b ≠ g
    omega

set_option maxRecDepth 100000 in
set_option maxHeartbeats 1000000 in
theorem dig_of_any (L : Option Addr) (n c : Nat) (ps : List Piece) (w : World) (B : Nat) (hT : Tab w) (hB : B ≤ w.heap.size) (h : PartsAt w B L ps) (hn : n = ps.length) (hl : n ≤ 9223372036854775807) (hbd : (flat ps).length ≤ 100000000) :
    Calls Tryd.prog 28 #[.slice L n c] w fun e w' => e = .returned (.agg (cells (shaB (flat ps))).toArray) ∧ Below w.heap.size w w' := by
  have Hn := Lib.hid hn
  have HP := Lib.hid h
  clear hn h
  go_enter Tryd.func28, Tryd.ntmps28
  go_wp2_with ((with_reducible refine at_alloc 37 ?_); refine wpList_alloc_rowV rfl 37 rfl (cells zero32) Tryd.zeroA ?_)
  intro w1 hr1 hb1 hs1
  have hT1 := hT.below hb1
  go_wp2_with fail
  refine (new_any w1).mono ?_
  rintro e w2 ⟨rfl, hH, hb2, hs2⟩
  have hr2 := hr1.below hr1.lt hb2
  have hT2 := hT1.below hb2
  have hB2 : Below w.heap.size w w2 := hb1.trans (hb2.mono (by omega))
  have hg0 : w1.heap.size ≠ 0 := by omega
  have hgN : w.heap.size < w1.heap.size := by omega
  have HB : Hid (B ≤ w.heap.size) := hB
  clear hr1 hT1 hb1 hb2 hs1 hT hB
  have hgs : w1.heap.size < w2.heap.size := by omega
  clear hs2
  generalize w1.heap.size = g at *
  go_wp2_with fail
  go_loopw [9] (fun i W => ∃ k : Nat, k ≤ n ∧ i = .int .i64 k ∧ HashAt W g (flat (ps.take k)) ∧ RowV W w.heap.size 37 (cells zero32) ∧ Tab W ∧ Below w.heap.size w W) (fun i _ => n - (intOf i).toNat)
  case atStart => exact ⟨0, Nat.zero_le _, rfl, hH, hr2, hT2, hB2⟩
  case round =>
    obtain ⟨k, hk, hik, hH1, hr, hT, hB⟩ := hrel
    subst hik
    clear hH hr2 hT2 hB2
    by_cases hlt : k < n
    · obtain ⟨b, o, p, rfl, hp, hc, hok⟩ := (HP.out.below (hB.mono HB.out)).at_ (k := k) (by rw [← Hn.out]; exact hlt)
      have Hp := Lib.hid (flat_take_succ hp)
      have Hle := Lib.hid (flat_take_le ps (k + 1))
      rw [Hp.out, List.length_append] at Hle
      obtain ⟨A, pn, pc, xs⟩ := p
      obtain ⟨hL, h1, h2, h3⟩ := hok
      have HL := Lib.hid hL
      have H1 := Lib.hid h1
      clear hL h1 hp
      go_wp2_with fail
      refine (add_lies g (flat (ps.take k)) xs A pn pc wr B hg0 hT hH1 ?_ ?_ HL.out H1.out h2 h3 ?_).mono ?_
      · have := HB.out; have := hB.size; omega
      · have := HB.out; omega
      · have := Hle.out; have h4 := H1.out; omega
      rintro e w3 ⟨rfl, hH3, hg3⟩
      have hr3 := hr.keep hg3 (by intro e; injection e with e; omega)
      have hT3 := hT.grown hg3 hg0
      have hB3 : Below w.heap.size w w3 := hB.grown hg3 hB.size (fun k e => by injection e with e; omega)
      go_wp2
      go_roundw
      case rel => exact ⟨k + 1, by omega, by go_num, by rw [Hp.out]; exact hH3, hr3, hT3, hB3⟩
      case measure => simp [intOf]; omega
    · obtain rfl : k = n := by omega
      rw [List.take_of_length_le (by rw [← Hn.out]; exact Nat.le_refl _)] at hH1
      go_wp2_with fail
      refine (sum_any g (flat ps) wr hT hH1 hbd).mono ?_
      rintro e w3 ⟨rfl, hb3⟩
      have hr3 := hr.below hr.lt hb3
      have hB3 : Below w.heap.size w w3 := hB.trans (hb3.mono hB.size)
      have Hsz2 : Hid ((Tryd.prog.info? 37).map (·.size) = some ((cells (shaB (flat ps))).toArray).size) := by show _ = _; rw [Tryd.sizeA, List.size_toArray, cells_length, shaB_length]
      have Hold2 : Hid (((cells zero32).toArray).size = ((cells (shaB (flat ps))).toArray).size) := by show _ = _; rw [List.size_toArray, List.size_toArray, cells_length, cells_length, shaB_length]; rfl
      go_wp2_with ((with_reducible refine at_store 37 ?_); refine wpList_store_row rfl 37 _ _ rfl w.heap.size _ rfl rfl 37 _ hr3 Hsz2.out Hold2.out (cells_oneCell _) ?_)
      refine bodyPost_ret (results_cell_row (fn := Tryd.f28) rfl _ _ w.heap.size 37 _ (0, 0) _ rfl (hr3.put (cells (shaB (flat ps)))) Tryd.underlying37 rfl Hsz2.out) rfl ⟨rfl, ?_⟩
      exact below_setRow hB3 (Nat.le_refl _) _

/-- Two slices, laid in a row for the call. -/
theorem of_two (w : World) (A1 A2 : Option Addr) (n1 c1 n2 c2 : Nat) (xs ys : List UInt8) (hT : Tab w) (h1 : Lies w w.heap.size A1 xs) (h2 : Lies w w.heap.size A2 ys) (e1 : n1 = xs.length) (e2 : n2 = ys.length) (l1 : n1 ≤ c1) (l2 : n2 ≤ c2) (m1 : c1 ≤ maxLen) (m2 : c2 ≤ maxLen) (hbd : xs.length + ys.length ≤ 100000000) :
    Calls Tryd.prog 28 #[.slice (some ⟨w.heap.size, 0, none⟩) 2 2] (w.alloc (.cells #[.slice A1 n1 c1, .slice A2 n2 c2] 22)) fun e w' => e = .returned (.agg (cells (shaB (xs ++ ys))).toArray) ∧ Below w.heap.size w w' := by
  have hb : Below w.heap.size w (w.alloc (.cells #[.slice A1 n1 c1, .slice A2 n2 c2] 22)) := (Below.refl _ _).alloc (Nat.le_refl _) _
  have hs : (w.alloc (.cells #[.slice A1 n1 c1, .slice A2 n2 c2] 22)).heap.size = w.heap.size + 1 := by simp
  have hrow : RowV (w.alloc (.cells #[.slice A1 n1 c1, .slice A2 n2 c2] 22)) w.heap.size 22 [.slice A1 n1 c1, .slice A2 n2 c2] := heap_alloc_new w _
  have hp : PartsAt (w.alloc (.cells #[.slice A1 n1 c1, .slice A2 n2 c2] 22)) (w.heap.size + 1) (some ⟨w.heap.size, 0, none⟩) [⟨A1, n1, c1, xs⟩, ⟨A2, n2, c2, ys⟩] := by
    refine ⟨fun _ => ⟨w.heap.size, 0, rfl, by omega, fun i p hi => ?_⟩, ?_⟩
    · match i with
      | 0 =>
        simp only [List.getElem?_cons_zero, Option.some.injEq] at hi
        subst hi
        exact hrow.cell rfl
      | 1 =>
        simp only [List.getElem?_cons_succ, List.getElem?_cons_zero, Option.some.injEq] at hi
        subst hi
        exact hrow.cell rfl
      | i + 2 => simp at hi
    · intro p hp
      rw [List.mem_cons, List.mem_singleton] at hp
      rcases hp with rfl | rfl
      · exact ⟨(h1.below hb).le (by omega), e1, l1, m1⟩
      · exact ⟨(h2.below hb).le (by omega), e2, l2, m2⟩
  refine (dig_of_any _ 2 2 _ _ _ (hT.below hb) (by rw [hs]; exact Nat.le_refl _) hp rfl (by omega) (by simp [flat]; omega)).mono ?_
  rintro e w' ⟨rfl, hb'⟩
  refine ⟨?_, hb.trans (hb'.mono (by omega))⟩
  simp [flat]
end Go.Proofs.YtmcbpifkclhfiaaDoor
