/-
  Layer 13: the contracts of Address and of Of.
-/
import Derived.Test.YtmcbpifkclhfiaaDoorPkChkA
import Derived.Test.YtmcbpifkclhfiaaDoorPkOfC
import Derived.Test.YtmcbpifkclhfiaaDoorPkRSame
import Derived.Test.YtmcbpifkclhfiaaDoorPkLit
import Derived.Test.YtmcbpifkclhfiaaDoorPkStr
import Derived.Test.YtmcbpifkclhfiaaDoorPkHashM
namespace Go.Proofs.YtmcbpifkclhfiaaDoor
open Go.RowKit
set_option linter.unusedVariables false

/-- Addresses, one behind the other. -/
def acells (l : List (List UInt8)) : List Value := l.flatMap cells
theorem saidK_length (xs : List UInt8) : (saidK xs).length = xs.length + 5 := by simp [saidK]
theorem adrK13_length (xs : List UInt8) : (adrK13 xs).length = 32 := shaB_length _

set_option maxRecDepth 100000 in
set_option maxHeartbeats 1000000 in
theorem kaddress_any (A : Option Addr) (n c : Nat) (xs : List UInt8) (w : World) (B : Nat) (hT : Tab w) (h : Lies w B A xs) (hB : B ≤ w.heap.size) (hn : n = xs.length) (hc : n ≤ c) (hm : c ≤ maxLen) (hbd : n ≤ 1000000) :
    Calls Tryd.prog 17 #[.slice A n c] w fun e w' => e = .returned (.agg (cells (adrK13 xs)).toArray) ∧ Below w.heap.size w w' := by
  have Hn := Lib.hid hn
  have H := Lib.hid h
  clear hn h
  go_enter Tryd.func17, Tryd.ntmps17
  go_wp2_with (first
    | ((with_reducible refine at_alloc 37 ?_); refine wpList_alloc_rowV rfl 37 rfl (cells zero32) Tryd.zeroA ?_))
  intro w1 hr1 hb1 hs1
  have HS1 := Lib.hid hs1
  clear hs1
  go_wp2_with ((with_reducible refine at_convert 22 ?_); refine wpList_const rfl 22 _ rfl Tryd.underlying22 Tryd.underlying5 #[.int .u8 99, .int .u8 104, .int .u8 117, .int .u8 110, .int .u8 107] 5 5 rfl [99, 104, 117, 110, 107] rfl ?_)
  intro w2 hl2 hb2 hs2
  have hs1 := HS1.out
  have hB2 : Below w.heap.size w w2 := hb1.trans (hb2.mono (by omega))
  have hT2 := hT.below hB2
  have hr2 := hr1.below (by omega) hb2
  have hx2 : Lies w2 w2.heap.size A xs := (H.out.below (hB2.mono hB)).le (by have := hB2.size; omega)
  have hl2' := hl2.le (B' := w2.heap.size) (by omega)
  clear hs2 hs1 HS1
  go_wp2_with fail
  refine (of_two w2 _ _ 5 5 n c [99, 104, 117, 110, 107] xs hT2 hl2' hx2 rfl Hn.out (Nat.le_refl _) hc (by unfold maxLen; omega) hm (by have := Hn.out; simp only [List.length_cons, List.length_nil]; omega)).mono ?_
  rintro e w3 ⟨rfl, hb3⟩
  have e0 : shaB ([99, 104, 117, 110, 107] ++ xs) = adrK13 xs := rfl
  rw [e0]
  clear e0
  have hr3 := hr2.below hr2.lt hb3
  have hB3 := hB2.trans (hb3.mono hB2.size)
  have Hsz : Hid ((Tryd.prog.info? 37).map (·.size) = some ((cells (adrK13 xs)).toArray).size) := by show _ = _; rw [Tryd.sizeA, List.size_toArray, cells_length, adrK13_length]
  have Hold : Hid (((cells zero32).toArray).size = ((cells (adrK13 xs)).toArray).size) := by show _ = _; rw [List.size_toArray, List.size_toArray, cells_length, cells_length, adrK13_length]; rfl
  go_wp2_with ((with_reducible refine at_store 37 ?_); refine wpList_store_row rfl 37 _ _ rfl w.heap.size _ rfl rfl 37 _ hr3 Hsz.out Hold.out (cells_oneCell _) ?_)
  refine bodyPost_ret (results_cell_row (fn := Tryd.f17) rfl _ _ w.heap.size 37 _ (0, 0) _ rfl (hr3.put (cells (adrK13 xs))) Tryd.underlying37 rfl Hsz.out) rfl ⟨rfl, ?_⟩
  exact below_setRow hB3 (Nat.le_refl _) _
/-- One of the addresses, where they lie. -/
theorem acells_at {w : World} {B : Nat} {L : Option Addr} {l : List (List UInt8)} (h : LiesV w B L (acells l)) (hl : ∀ x ∈ l, x.length = 32) {k : Nat} {x : List UInt8} (hk : l[k]? = some x) : ∃ b o, L = some ⟨b, o, none⟩ ∧ b < B ∧ w.rangeAt b (o + k * 32) (cells x) := by
  have hx : x ∈ l := List.mem_of_getElem? hk
  have hxl := hl x hx
  obtain ⟨l', rfl⟩ : ∃ l' : List {x : List UInt8 // x.length = 32}, l = l'.map (·.1) := ⟨l.attach.map (fun y => ⟨y.1, hl y.1 y.2⟩), by simp [List.map_map, Function.comp_def]⟩
  rw [List.getElem?_map, Option.map_eq_some_iff] at hk
  obtain ⟨y, hy, rfl⟩ := hk
  have hf : ∀ z : {x : List UInt8 // x.length = 32}, (cells z.1).length = 32 := fun z => by rw [cells_length]; exact z.2
  have e : acells (l'.map (·.1)) = l'.flatMap (fun z => cells z.1) := by unfold acells; rw [List.flatMap_map]
  rw [e] at h
  have hne : l'.flatMap (fun z => cells z.1) ≠ [] := by
    intro h0
    have := flat_get hf hy 0 (by omega)
    rw [h0] at this
    have h2 : (cells y.1)[0]? = none := this.symm
    rw [List.getElem?_eq_none_iff, cells_length] at h2
    omega
  obtain ⟨b, o, rfl, hb, hc⟩ := h hne
  refine ⟨b, o, rfl, hb, fun j u hj => ?_⟩
  have hj32 : j < 32 := by
    have := (List.getElem?_eq_some_iff.1 hj).1
    rwa [cells_length, y.2] at this
  have := hc (k * 32 + j) u (by rw [flat_get hf hy j hj32]; exact hj)
  rwa [← Nat.add_assoc] at this

theorem flatten_take_succ {l : List (List UInt8)} {k : Nat} {x : List UInt8} (h : l[k]? = some x) : (l.take (k + 1)).flatten = (l.take k).flatten ++ x := by
  rw [List.take_add_one, h, List.flatten_append]
  simp
theorem flatten_len {l : List (List UInt8)} (h : ∀ x ∈ l, x.length = 32) : l.flatten.length = l.length * 32 := by
  induction l with
  | nil => rfl
  | cons x l ih => rw [List.flatten_cons, List.length_append, h x (by simp), ih (fun y hy => h y (by simp [hy])), List.length_cons]; omega
theorem textMark_len (s : Nat) (l : List (List UInt8)) (h : ∀ x ∈ l, x.length = 32) : (wordsK s l).length = 8 + l.length * 32 := by
  simp only [wordsK, List.length_append, flatten_len h, putB_length, List.length_cons, List.length_nil]

set_option maxRecDepth 100000 in
set_option maxHeartbeats 2000000 in
theorem kof_any (s : Nat) (L : Option Addr) (n c : Nat) (l : List (List UInt8)) (w : World) (B : Nat) (hT : Tab w) (h : LiesV w B L (acells l)) (hl : ∀ x ∈ l, x.length = 32) (hB : B ≤ w.heap.size) (hn : n = l.length) (hm : n ≤ 100000) (hs : s ≤ 9223372036854775807) :
    Calls Tryd.prog 20 #[.int .i64 (s : Int), .slice L n c] w fun e w' => e = .returned (.agg (cells (shaB (wordsK s l))).toArray) ∧ Below w.heap.size w w' := by
  have Hn := Lib.hid hn
  have H := Lib.hid h
  have Hl := Lib.hid hl
  have hsl : ∀ W g, (Instr.sliceAt 37 (.pointer (some ⟨g, 0, none⟩)) none none none).run Tryd.prog W = .ok (.slice (some ⟨g, 0, none⟩) 32 32) W := fun W g => run_slice_arr_all Tryd.underlying37 Tryd.size5 g
  clear hn h hl
  go_enter Tryd.func20, Tryd.ntmps20
  go_wp2_with ((with_reducible refine at_alloc 37 ?_); refine wpList_alloc_rowV rfl 37 rfl (cells zero32) Tryd.zeroA ?_)
  intro w1 hr1 hb1 hs1
  go_wp2_with fail
  refine (new_any w1).mono ?_
  rintro e w2 ⟨rfl, hH2, hb2, hs2⟩
  obtain ⟨K, hK⟩ : ∃ K, w.heap.size = K := ⟨_, rfl⟩
  obtain ⟨g, hg⟩ : ∃ g, w1.heap.size = g := ⟨_, rfl⟩
  have hB2 : Below K w w2 := by rw [← hK]; exact hb1.trans (hb2.mono (by omega))
  have hr2 := hr1.below hr1.lt hb2
  have hT2 := hT.belowN hT.pos (hb1.trans (hb2.mono (by omega)))
  have hgK : K < g := by omega
  have hg2 : g < w2.heap.size := by omega
  have hKw : K ≤ w.heap.size := by omega
  rw [hg] at hH2
  rw [hK] at hr2 hB
  rw [hK, hg]
  clear hr1 hb1 hb2 hs1 hs2 hT hg
  go_wp2_with ((with_reducible refine at_convert 22 ?_); refine wpList_const rfl 22 _ rfl Tryd.underlying22 Tryd.underlying5 #[.int .u8 116, .int .u8 101, .int .u8 120, .int .u8 116] 4 4 rfl [116, 101, 120, 116] rfl ?_)
  intro w3 hl3 hb3 hs3
  have hH3 := hH2.below hb3
  have hT3 := hT2.below hb3
  have hr3 := hr2.below (by omega) hb3
  have hB3 : Below K w w3 := hB2.trans (hb3.mono (by omega))
  have hg3 : g < w3.heap.size := by omega
  have hls : w2.heap.size ≠ g := by omega
  have hl3' := hl3.le (B' := w3.heap.size) (by omega)
  clear hs3 hb3 hH2 hT2 hr2 hB2 hl3
  go_wp2_with fail
  refine (add_any g [] [116, 101, 120, 116] _ 4 4 w3 w3.heap.size (by omega) hT3 hH3 (Nat.le_refl _) hl3' (fun a ha => by injection ha with ha; subst ha; exact hls) rfl (Nat.le_refl _) (by unfold maxLen; omega) (by decide)).mono ?_
  rintro e w4 ⟨rfl, hH4, hg4⟩
  have hr4 := hr3.keep hg4 (by intro e; injection e with e; omega)
  have hT4 := hT3.grown hg4 (by omega)
  have hB4 : Below K w w4 := hB3.grown hg4 (by have := hB3.size; omega) (fun k e => by injection e with e; omega)
  rw [List.nil_append] at hH4
  have hs4 := hg4.size
  clear hH3 hT3 hr3 hB3 hl3' hg4 hg2
  go_wp2_with fail
  refine (put_row s 4 w4 (by omega) (by omega) (by omega)).mono ?_
  rintro e w5 ⟨v5, rfl, ho5, hb5⟩
  obtain ⟨A5, c5, hv5, h50, h51, h52, hl5⟩ := Lies.of_own ho5
  rw [← h50] at hv5
  subst hv5
  have hA5 : Aside g A5 := fun a ha => by subst ha; have := own_ge ho5 a.block rfl; omega
  have hH5 := hH4.below hb5
  have hT5 := hT4.below hb5
  have hr5 := hr4.below hr4.lt hb5
  have hB5 : Below K w w5 := hB4.trans (hb5.mono (by have := hB4.size; omega))
  have hg5 : g < w5.heap.size := by have := hb5.size; omega
  have Hp : Hid (4 = (putB s 4).length) := by show _ = _; rw [putB_length]
  clear hH4 hT4 hr4 hB4 hb5 ho5 h50 hs4 hg3
  go_wp2_with fail
  refine (add_any g [116, 101, 120, 116] (putB s 4) A5 4 c5 w5 w5.heap.size (by omega) hT5 hH5 (Nat.le_refl _) hl5 hA5 Hp.out h51 h52 (by simp only [List.length_cons, List.length_nil]; omega)).mono ?_
  rintro e w6 ⟨rfl, hH6, hg6⟩
  have hr6 := hr5.keep hg6 (by intro e; injection e with e; omega)
  have hT6 := hT5.grown hg6 (by omega)
  have hB6 : Below K w w6 := hB5.grown hg6 (by have := hB5.size; omega) (fun k e => by injection e with e; omega)
  have hs6 : g < w6.heap.size := by have := hg6.size; omega
  obtain ⟨P, hP⟩ : ∃ P, [116, 101, 120, 116] ++ putB s 4 = P := ⟨_, rfl⟩
  have HP := Lib.hid hP
  have hPl : P.length = 8 := by rw [← hP, List.length_append, ← Hp.out]; rfl
  rw [hP] at hH6
  clear hH5 hT5 hr5 hB5 hg6 hg5 hl5 hA5 hP
  go_wp2_with fail
  go_loopw [20] (fun i W => ∃ k : Nat, k ≤ n ∧ i = .int .i64 k ∧ HashAt W g (P ++ (l.take k).flatten) ∧ RowV W K 37 (cells zero32) ∧ Tab W ∧ Below K w W) (fun i _ => n - (intOf i).toNat)
  case atStart => exact ⟨0, Nat.zero_le _, rfl, by rw [List.take_zero, List.flatten_nil, List.append_nil]; exact hH6, hr6, hT6, hB6⟩
  case round =>
    obtain ⟨k, hk, hik, hH, hr, hT, hBW⟩ := hrel
    subst hik
    clear hH6 hr6 hT6 hB6
    by_cases hlt : k < n
    · obtain ⟨x, hx⟩ : ∃ x, l[k]? = some x := ⟨l[k]'(by rw [← Hn.out]; exact hlt), List.getElem?_eq_getElem _⟩
      have hxl := Hl.out x (List.mem_of_getElem? hx)
      obtain ⟨bL, oL, rfl, hbL, hra⟩ := acells_at (H.out.below (hBW.mono hB)) Hl.out hx
      have Hx := Lib.hid (flatten_take_succ hx)
      have Hxl := Lib.hid hxl
      have Hra := Lib.hid hra
      have Hs : Hid ((Tryd.prog.info? 37).map (·.size) = some (cells x).length) := by show _ = _; rw [Tryd.sizeA, cells_length, hxl]
      have Hsz : Hid ((Tryd.prog.info? 37).map (·.size) = some (cells x).toArray.size) := by show _ = _; rw [Tryd.sizeA, List.size_toArray, cells_length, hxl]
      have Hold : Hid (((cells zero32).toArray).size = ((cells x).toArray).size) := by show _ = _; rw [List.size_toArray, List.size_toArray, cells_length, cells_length, hxl]; rfl
      have Hlen : Hid ((P ++ (l.take k).flatten).length + 32 ≤ 1000000000) := by
        show _ ≤ _
        have h3 : (l.take k).flatten.length = (l.take k).length * 32 := flatten_len (fun y hy => Hl.out y (List.mem_of_mem_take hy))
        rw [List.length_append, h3, List.length_take]
        omega
      clear hxl hra hx
      have hgW : g < wr.heap.size := hH.lt
      have hKW : K < wr.heap.size := hr.lt
      go_wp2_with (first
        | ((with_reducible refine at_load 37 ?_); refine wpList_load_mid rfl 37 _ rfl bL (oL + k * 32) rfl (cells x) _ Hra.out Tryd.underlying37 rfl Hs.out ?_)
        | ((with_reducible refine at_alloc 37 ?_); refine wpList_alloc_rowV rfl 37 rfl (cells zero32) Tryd.zeroA ?_))
      intro w7 hr7 hb7 hs7
      have hH7 := hH.below hb7
      have hT7 := hT.below hb7
      have hrr7 := hr.below hr.lt hb7
      have hB7 : Below K w w7 := hBW.trans (hb7.mono (by omega))
      obtain ⟨G, hG⟩ : ∃ G, wr.heap.size = G := ⟨_, rfl⟩
      rw [hG] at hr7 hs7 hgW hKW ⊢
      clear hb7 hG hH hr hT hBW
      go_wp2_with ((with_reducible refine at_store 37 ?_); refine wpList_store_rowV rfl 37 _ _ rfl G (cells x) rfl rfl 37 _ hr7 Hsz.out Hold.out (cells_oneCell _) ?_)
      intro w8 hr8 hg8 hs8
      have hH8 := hH7.grown hg8 (by omega)
      have hT8 := hT7.grown hg8 (by omega)
      have hrr8 := hrr7.keep hg8 (by intro e; injection e with e; omega)
      have hB8 : Below K w w8 := hB7.grown hg8 (by have := hB7.size; omega) (fun k e => by injection e with e; omega)
      have hl8 : Lies w8 w8.heap.size (some ⟨G, 0, none⟩) x := Row.lies hr8
      clear hH7 hT7 hrr7 hB7 hr7 hg8
      go_wp2_with fail
      refine (add_any g (P ++ (l.take k).flatten) x _ 32 32 w8 w8.heap.size (by omega) hT8 hH8 (Nat.le_refl _) hl8 (fun a ha => by injection ha with ha; subst ha; show G ≠ g; omega) Hxl.out.symm (Nat.le_refl _) (by unfold maxLen; omega) Hlen.out).mono ?_
      rintro e w9 ⟨rfl, hH9, hg9⟩
      have hr9 := hrr8.keep hg9 (by intro e; injection e with e; omega)
      have hT9 := hT8.grown hg9 (by omega)
      have hB9 : Below K w w9 := hB8.grown hg9 (by have := hB8.size; omega) (fun k e => by injection e with e; omega)
      rw [List.append_assoc, ← Hx.out] at hH9
      clear hH8 hT8 hrr8 hB8 hg9 hr8 hl8
      go_wp2
      go_roundw
      case rel => exact ⟨k + 1, by omega, by go_num, hH9, hr9, hT9, hB9⟩
      case measure => simp [intOf]; omega
    · obtain rfl : k = n := by omega
      rw [List.take_of_length_le (by rw [← Hn.out]; exact Nat.le_refl _)] at hH
      have Hbd : Hid ((P ++ l.flatten).length ≤ 100000000) := by
        show _ ≤ _
        rw [List.length_append, flatten_len Hl.out, ← Hn.out]
        omega
      have e0 : P ++ l.flatten = wordsK s l := by rw [← HP.out]; rfl
      rw [e0] at hH Hbd
      clear e0
      go_wp2_with fail
      refine (sum_any g (wordsK s l) wr hT hH Hbd.out).mono ?_
      rintro e w3 ⟨rfl, hb3⟩
      have hr3 := hr.below hr.lt hb3
      have hB3 : Below K w w3 := hBW.trans (hb3.mono (by have := hr.lt; omega))
      have Hsz2 : Hid ((Tryd.prog.info? 37).map (·.size) = some ((cells (shaB (wordsK s l))).toArray).size) := by show _ = _; rw [Tryd.sizeA, List.size_toArray, cells_length, shaB_length]
      have Hold2 : Hid (((cells zero32).toArray).size = ((cells (shaB (wordsK s l))).toArray).size) := by show _ = _; rw [List.size_toArray, List.size_toArray, cells_length, cells_length, shaB_length]; rfl
      go_wp2_with ((with_reducible refine at_store 37 ?_); refine wpList_store_row rfl 37 _ _ rfl K _ rfl rfl 37 _ hr3 Hsz2.out Hold2.out (cells_oneCell _) ?_)
      refine bodyPost_ret (results_cell_row (fn := Tryd.f20) rfl _ _ K 37 _ (0, 0) _ rfl (hr3.put (cells (shaB (wordsK s l)))) Tryd.underlying37 rfl Hsz2.out) rfl ⟨rfl, ?_⟩
      rw [hK]
      exact below_setRow hB3 (Nat.le_refl _) _
end Go.Proofs.YtmcbpifkclhfiaaDoor
