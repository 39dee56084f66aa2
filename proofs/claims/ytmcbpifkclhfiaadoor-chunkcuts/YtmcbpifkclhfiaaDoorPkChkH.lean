/-
  Layer 13: the contracts of the reference's Split, Said and Address.
-/
import Derived.Test.YtmcbpifkclhfiaaDoorPkChkE
import Derived.Test.YtmcbpifkclhfiaaDoorPkRSum
namespace Go.Proofs.YtmcbpifkclhfiaaDoor
open Go.RowKit
set_option linter.unusedVariables false

/-- How Split answers: slices of bytes, the chunks. -/
def RetCut (w : World) (B n : Nat) (b : List UInt8) (e : Ending) (w' : World) : Prop :=
  ∃ L ps cl, e = .returned (.slice L (countK n) cl) ∧ ps.map Piece.xs = chunksK b ∧ PartsAt w' w'.heap.size L ps ∧ (∀ p ∈ ps, p.ok w' B) ∧ Fresh w.heap.size L ∧ countK n ≤ cl ∧ Below w.heap.size w w'
def Piece.val (p : Piece) : Value := .slice p.A p.n p.c
theorem Piece.ok.le {w : World} {B B' : Nat} {p : Piece} (h : p.ok w B) (hB : B ≤ B') : p.ok w B' := ⟨h.1.le hB, h.2⟩
theorem pieces_len {ps : List Piece} {b : List UInt8} (hp : ps.map Piece.xs = chunksK b) : ps.length = countK b.length := by
  have := congrArg List.length hp
  rwa [List.length_map, chunksK_length] at this
/-- An own row of slices. -/
theorem PartsAt.of_own {w : World} {base n : Nat} {A : Option Addr} {c : Nat} {ps : List Piece} (h : w.ownsRow base 22 1 (.slice A n c) n (ps.map Piece.val)) (hp : ∀ p ∈ ps, p.ok w w.heap.size) : PartsAt w w.heap.size A ps := by
  refine ⟨fun hne => ?_, hp⟩
  obtain ⟨A2, c2, hv, _, _, _, hl⟩ := LiesV.of_own h
  injection hv with e1 e2 e3
  subst e1
  obtain ⟨b, o, e, hb, hc⟩ := hl (by simpa using hne)
  exact ⟨b, o, e, hb, fun i p hi => hc i _ (by rw [List.getElem?_map, hi]; rfl)⟩

set_option maxRecDepth 100000 in
set_option maxHeartbeats 2000000 in
theorem rsplit_any (N : Nat) : ∀ (A : Option Addr) (n c : Nat) (b : List UInt8) (w : World) (B : Nat), n ≤ N → Lies w B A b → B ≤ w.heap.size → n = b.length → n ≤ c → c ≤ maxLen → n ≤ 100000 →
    Calls Tryd.prog 8 #[.slice A n c] w (RetCut w B n b) := by
  induction N with
  | zero =>
    intro A n c b w B hN h hB hn hc hm hbd
    obtain rfl : n = 0 := by omega
    have hb : b = [] := List.eq_nil_of_length_eq_zero hn.symm
    subst hb
    clear hn hN h hB hc hm hbd
    go_enter Tryd.func8, Tryd.ntmps8
    go_wp2_with fail
    go_ret
    exact ⟨none, [], 0, rfl, rfl, PartsAt.nil _ _ _, (fun p hp => by cases hp), (fun a ha => by cases ha), Nat.le_refl _, Below.refl _ _⟩
  | succ N ih =>
    intro A n c b w B hN h hB hn hc hm hbd
    by_cases h0 : n = 0
    · subst h0
      have hb : b = [] := List.eq_nil_of_length_eq_zero hn.symm
      subst hb
      clear ih hn hN h hB hc hm hbd
      go_enter Tryd.func8, Tryd.ntmps8
      go_wp2_with fail
      go_ret
      exact ⟨none, [], 0, rfl, rfl, PartsAt.nil _ _ _, (fun p hp => by cases hp), (fun a ha => by cases ha), Nat.le_refl _, Below.refl _ _⟩
    have Hn := Lib.hid hn
    have H := Lib.hid h
    obtain ⟨i0, hi, hz0, hz1, hz2⟩ := info_parts (show (Tryd.prog.info? 22).map (fun i => (i.zero, i.size, i.bytes)) = some (some (.slice none 0 0), 1, 24) by kernel_rfl)
    by_cases h1 : n ≤ 256
    · have Hch : Hid (chunksK b = [b]) := chunksK_one (by omega) (by omega)
      have Hct : Hid (countK n = 1) := countK_one (by omega) h1
      have hb1 : Below w.heap.size w (w.alloc (.cells #[.slice A n c] 22)) := (Below.refl _ _).alloc (Nat.le_refl _) _
      have ho : (w.alloc (.cells #[.slice A n c] 22)).ownsRow w.heap.size 22 1 (.slice (some ⟨w.heap.size, 0, none⟩) 1 1) 1 [.slice A n c] := World.ownsRow_lit w #[.slice A n c] 1 (Nat.le_refl _) (by unfold maxLen; omega) rfl
      clear ih hn h
      go_enter Tryd.func8, Tryd.ntmps8
      go_wp2_with fail
      go_ret
      have hok : ∀ p ∈ [(⟨A, n, c, b⟩ : Piece)], p.ok (w.alloc (.cells #[.slice A n c] 22)) B := by
        intro p hp
        rw [List.mem_singleton] at hp
        subst hp
        exact ⟨H.out.below (hb1.mono hB), Hn.out, hc, hm⟩
      exact ⟨_, [⟨A, n, c, b⟩], 1, by rw [Hct.out]; rfl, by rw [Hch.out]; rfl, PartsAt.of_own (ps := [⟨A, n, c, b⟩]) ho (fun p hp => (hok p hp).le (Nat.le_trans hB hb1.size)), hok, Fresh.of_own ho, by rw [Hct.out]; exact Nat.le_refl _, hb1⟩
    · obtain ⟨bA, oA, rfl, hbA, _⟩ := h (by intro h2; rw [h2] at hn; simp at hn; omega)
      have hne : ¬ c = 256 := by omega
      have hlt := h.take 256
      have hld := h.drop (k := 256) (c := c) (by omega)
      rw [if_neg hne] at hld
      simp only [Option.map_some, Addr.add_lit] at hld
      have Hch : Hid (chunksK b = b.take 256 :: chunksK (b.drop 256)) := chunksK_step (by omega)
      have Hct : Hid (countK n = countK (n - 256) + 1) := countK_step (by omega)
      have HT := Lib.hid hlt
      have HD := Lib.hid hld
      clear hlt hld hn h
      have ho : (w.alloc (.cells #[.slice (some ⟨bA, oA, none⟩) 256 c] 22)).ownsRow w.heap.size 22 1 (.slice (some ⟨w.heap.size, 0, none⟩) 1 1) 1 [.slice (some ⟨bA, oA, none⟩) 256 c] := World.ownsRow_lit w #[.slice (some ⟨bA, oA, none⟩) 256 c] 1 (Nat.le_refl _) (by unfold maxLen; omega) rfl
      have hb1 : Below w.heap.size w (w.alloc (.cells #[.slice (some ⟨bA, oA, none⟩) 256 c] 22)) := (Below.refl _ _).alloc (Nat.le_refl _) _
      have hs1 : w.heap.size < (w.alloc (.cells #[.slice (some ⟨bA, oA, none⟩) 256 c] 22)).heap.size := by simp
      generalize hw1 : w.alloc (.cells #[.slice (some ⟨bA, oA, none⟩) 256 c] 22) = w1 at *
      have hrec := ih (some ⟨bA, oA + 256, none⟩) (n - 256) (c - 256) (b.drop 256) w1 B (by omega) (HD.out.below (hb1.mono hB)) (by omega) (by rw [List.length_drop, ← Hn.out]) (by omega) (by omega) (by omega)
      clear ih
      have hcast : ((256 : Int)).toNat = 256 := rfl
      go_enter Tryd.func8, Tryd.ntmps8
      go_wp2_with fail
      refine hrec.mono ?_
      clear hrec
      rintro e w2 ⟨L', ps, cl, rfl, hps, hpa, hpo, _, hcl, hb2⟩
      have hlen : ps.length = countK (n - 256) := by
        rw [pieces_len hps, List.length_drop, ← Hn.out]
      have hpos : 0 < countK (n - 256) := countK_pos (by omega)
      have hm9 : countK (n - 256) ≤ 1000 := by unfold countK; omega
      obtain ⟨b2, o2, rfl, hb2lt, hcs⟩ := hpa.1 (by intro h9; rw [h9] at hlen; simp at hlen; omega)
      have ho2 := own_below ho hb2
      have hB2 := hb1.trans (hb2.mono (by omega))
      have hs2 : w.heap.size ≤ w2.heap.size := hB2.size
      have hnews : ∀ (j : Nat) (u : Value), (ps.map Piece.val)[j]? = some u → w2.cell? ((⟨b2, o2, none⟩ : Addr).add j) = some u := by
        intro j u hj
        rw [List.getElem?_map, Option.map_eq_some_iff] at hj
        obtain ⟨p, hp, rfl⟩ := hj
        rw [Addr.add_lit]
        exact hcs j p hp
      have hone : ∀ u ∈ ps.map Piece.val, u.oneCell' = true := by
        intro u hu
        obtain ⟨p, _, rfl⟩ := List.mem_map.1 hu
        rfl
      have Hml : Hid ((ps.map Piece.val).length = countK (n - 256) * 1) := by show _ = _; rw [List.length_map, hlen, Nat.mul_one]
      have Hps := Lib.hid hps
      have Hpo := Lib.hid hpo
      clear hpa hcs hlen hps hpo hb1 hb2 ho hw1 hs1
      generalize hmm : countK (n - 256) = m at *
      go_wp2_with (at_builtin; refine wpList_append_own_at _ rfl _ _ 24 rfl w.heap.size 22 i0 (.slice none 0 0) 1 24 Tryd.underlying24 hi hz0 hz1 hz2 rfl (by decide) _ 1 _ rfl ho2 ⟨b2, o2, none⟩ m cl (ps.map Piece.val) rfl Hml.out hnews hone (by unfold maxLen; omega) (by omega) hs2 ?_)
      intro v9 w9 ho9 hg9 _ _
      obtain ⟨A9, c9, rfl, h91, h92⟩ := own_slice ho9
      have hB9 : Below w.heap.size w w9 := hB2.grown hg9 hs2 (own_ge ho2)
      go_wp2_with fail
      go_ret
      rw [Nat.add_comm 1 m] at ho9 h91
      have hok : ∀ p ∈ (⟨some ⟨bA, oA, none⟩, 256, c, b.take 256⟩ : Piece) :: ps, p.ok w9 B := by
        intro p hp
        rw [List.mem_cons] at hp
        rcases hp with rfl | hp
        · exact ⟨HT.out.below (hB9.mono hB), by show 256 = (b.take 256).length; rw [List.length_take, ← Hn.out]; omega, by show 256 ≤ c; omega, hm⟩
        · have h2 := Hpo.out p hp
          exact ⟨h2.1.grown hg9 (by omega) (fun g e => by have := own_ge ho2 g e; omega), h2.2⟩
      refine ⟨_, ⟨some ⟨bA, oA, none⟩, 256, c, b.take 256⟩ :: ps, c9, by rw [Hct.out, Nat.add_comm m 1]; rfl, ?_, PartsAt.of_own (ps := ⟨some ⟨bA, oA, none⟩, 256, c, b.take 256⟩ :: ps) ho9 (fun p hp => (hok p hp).le (Nat.le_trans hB hB9.size)), hok, Fresh.of_own ho9, by rw [Hct.out]; exact h91, hB9⟩
      rw [List.map_cons, Hps.out, Hch.out]
set_option maxRecDepth 100000 in
set_option maxHeartbeats 1000000 in
theorem rsaid_any (A : Option Addr) (n c : Nat) (xs : List UInt8) (w : World) (B : Nat) (h : Lies w B A xs) (hB : B ≤ w.heap.size) (hn : n = xs.length) (h0 : 0 < n) (hbd : n ≤ 100000) :
    Calls Tryd.prog 27 #[.slice A n c] w fun e w' => ∃ A' c', e = .returned (.slice A' (5 + n) c') ∧ Lies w' w'.heap.size A' (saidK xs) ∧ Below w.heap.size w w' := by
  obtain ⟨i0, hi, hz0, hz1, hz2⟩ := info_parts Tryd.info5
  have Hn := Lib.hid hn
  have H := Lib.hid h
  have Hne : Hid (xs ≠ []) := by show _ ≠ _; rintro rfl; simp at hn; omega
  clear hn h
  go_enter Tryd.func27, Tryd.ntmps27
  go_wp2_with ((with_reducible refine at_convert 22 ?_); refine wpList_const rfl 22 _ rfl Tryd.underlying22 Tryd.underlying5 #[.int .u8 99, .int .u8 104, .int .u8 117, .int .u8 110, .int .u8 107] 5 5 rfl [99, 104, 117, 110, 107] rfl ?_)
  intro w1 hl1 hb1 hs1
  have hl2 := hl1.le (B' := w1.heap.size) (by omega)
  have hx := (H.out.below (hb1.mono hB))
  have hBx : B ≤ w1.heap.size := Nat.le_trans hB hb1.size
  clear hs1 hl1
  go_wp2_with (at_builtin; refine wpList_append_full rfl _ _ 22 rfl i0 Tryd.underlying22 hi hz0 hz1 hz2 _ 5 5 [99, 104, 117, 110, 107] xs rfl w1.heap.size hl2 rfl (by decide) B A n c rfl hx Hn.out Hne.out (by omega) (by omega) ?_)
  intro v2 w2 ho2 hg2
  obtain ⟨A2, c2, rfl, h21, h22⟩ := own_slice ho2
  go_wp2_with fail
  go_ret
  obtain ⟨A3, c3, hv3, h31, h32, h33, hl3⟩ := Lies.of_own ho2
  injection hv3 with e1 e2 e3
  subst e1 e3
  exact ⟨_, _, rfl, hl3, hb1.trans ⟨hg2.os, hg2.tape, hg2.output, hg2.size, fun k hk => hg2.block k (by have := hb1.size; omega) (by simp)⟩⟩

set_option maxRecDepth 100000 in
set_option maxHeartbeats 1000000 in
theorem raddress_any (A : Option Addr) (n c : Nat) (xs : List UInt8) (w : World) (B : Nat) (h : Lies w B A xs) (hB : B ≤ w.heap.size) (hn : n = xs.length) (h0 : 0 < n) (hbd : n ≤ 10000) :
    Calls Tryd.prog 16 #[.slice A n c] w fun e w' => e = .returned (.agg (cells (adrK13 xs)).toArray) ∧ Below w.heap.size w w' := by
  have Hn := Lib.hid hn
  have H := Lib.hid h
  clear hn h
  go_enter Tryd.func16, Tryd.ntmps16
  go_wp2_with ((with_reducible refine at_alloc 37 ?_); refine wpList_alloc_rowV rfl 37 rfl (cells zero32) Tryd.zeroA ?_)
  intro w1 hr1 hb1 hs1
  go_wp2_with fail
  refine (rsaid_any A n c xs w1 B (H.out.below (hb1.mono hB)) (by omega) Hn.out h0 (by omega)).mono ?_
  rintro e w2 ⟨A2, c2, rfl, hl2, hb2⟩
  have hr2 := hr1.below hr1.lt hb2
  have hB2 : Below w.heap.size w w2 := hb1.trans (hb2.mono (by omega))
  clear hr1 hb1 hb2 hs1
  go_wp2_with fail
  refine (rsum_any A2 (5 + n) c2 (saidK xs) w2 w2.heap.size hl2 (Nat.le_refl _) (by rw [saidK_length, ← Hn.out, Nat.add_comm]) (by omega)).mono ?_
  rintro e w3 ⟨rfl, hb3⟩
  have hr3 := hr2.below hr2.lt hb3
  have hB3 := hB2.trans (hb3.mono hB2.size)
  have Hsz : Hid ((Tryd.prog.info? 37).map (·.size) = some ((cells (shaB (saidK xs))).toArray).size) := by show _ = _; rw [Tryd.sizeA, List.size_toArray, cells_length, shaB_length]
  have Hold : Hid (((cells zero32).toArray).size = ((cells (shaB (saidK xs))).toArray).size) := by show _ = _; rw [List.size_toArray, List.size_toArray, cells_length, cells_length, shaB_length]; rfl
  go_wp2_with ((with_reducible refine at_store 37 ?_); refine wpList_store_row rfl 37 _ _ rfl w.heap.size _ rfl rfl 37 _ hr3 Hsz.out Hold.out (cells_oneCell _) ?_)
  refine bodyPost_ret (results_cell_row (fn := Tryd.f16) rfl _ _ w.heap.size 37 _ (0, 0) _ rfl (hr3.put (cells (shaB (saidK xs)))) Tryd.underlying37 rfl Hsz.out) rfl ⟨rfl, ?_⟩
  exact below_setRow hB3 (Nat.le_refl _) _
end Go.Proofs.YtmcbpifkclhfiaaDoor
