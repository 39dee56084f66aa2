/-
  The contract of digest.Parse.
-/
import Derived.Test.YthkbbghoofknpaaDoorDigC
import Derived.Test.YthkbbghoofknpaaDoorBlockW
import Derived.Test.YthkbbghoofknpaaDoorSumC
namespace Go.Proofs.YthkbbghoofknpaaDoor
open Go.RowKit
set_option linter.unusedVariables false

theorem unhex_append : ∀ (p q : List UInt8) (k : Nat), p.length = 2 * k → unhex (p ++ q) = (unhex p).bind fun xs => (unhex q).map (xs ++ ·)
  | [], q, k, _ => by
    rw [List.nil_append]
    simp [unhex]
  | [c], q, k, h => by simp at h; omega
  | c :: d :: r, q, k, h => by
    have ih := unhex_append r q (k - 1) (by simp at h; omega)
    rw [List.cons_append, List.cons_append, unhex, unhex, ih]
    cases undig c <;> cases undig d <;> cases unhex r <;> cases unhex q <;> simp
theorem unhex_two (c d : UInt8) : unhex [c, d] = (undig c).bind fun h => (undig d).map fun l => [UInt8.ofNat (16 * h + l)] := by
  rw [unhex]
  cases undig c <;> cases undig d <;> simp [unhex]
/-- What Parse answers: an address and a code. -/
def parseB (s : List UInt8) : List UInt8 × Int := match (if s.length = 64 then unhex s else none) with | some xs => (xs, 0) | none => (zero32, 3)
theorem parseB_len {s : List UInt8} (h : s.length ≠ 64) : parseB s = (zero32, 3) := by unfold parseB; rw [if_neg h]
theorem parseB_none {s : List UInt8} (h : unhex s = none) : parseB s = (zero32, 3) := by unfold parseB; rw [h, ite_self]
theorem parseB_some {s xs : List UInt8} (h : s.length = 64) (hx : unhex s = some xs) : parseB s = (xs, 0) := by unfold parseB; rw [if_pos h, hx]
theorem digV_some {c : UInt8} {n : Nat} (h : undig c = some n) : digV c = (n : Int) := by unfold digV; rw [h]
theorem digV_none {c : UInt8} (h : undig c = none) : digV c = -1 := by unfold digV; rw [h]
theorem or_digits : ∀ h l : Nat, h < 16 → l < 16 → bits .or .i64 ((h : Int) * 16) (l : Int) = ((16 * h + l : Nat) : Int) := by
  have : ∀ h < 16, ∀ l < 16, bits .or .i64 (((h : Nat) : Int) * 16) ((l : Nat) : Int) = ((16 * h + l : Nat) : Int) := by decide +kernel
  exact fun h l hh hl => this h hh l hl

section
variable {P : Program}
theorem results_cell_tmp {fn : Func} {p q : Tmp} {ty : TypeId} (h : fn.results = #[.cell p ty, .tmp q]) (tmps : Array Value) (w : World) (g : Nat) (t : TypeId) (cs : Array Value) (fr : Nat × Nat) (d : TypeDesc)
    (hp : tmps.getD p undef = .pointer (some ⟨g, 0, none⟩)) (v : Value) (hq : tmps.getD q undef = v) (hg : w.heap[g]? = some (.cells cs t fr))
    (hu : P.underlying ty = some d) (hd : (match d with | .struct _ | .array _ _ => true | _ => false) = true) (hi : (P.info? ty).map (·.size) = some cs.size) :
    (results fn tmps).run P w = .ok (.tuple #[.agg cs, v]) w := by
  have hp' : tmps[p]?.getD undef = .pointer (some ⟨g, 0, none⟩) := by simpa using hp
  have hq' : tmps[q]?.getD undef = v := by simpa using hq
  simp [results, h, hp', hq', asAddr, run_loadVar_row w g t ty cs fr d hg hu hd hi]
theorem run_index_str {W : World} (s : ByteArray) (n : Nat) (c : UInt8) (k : IntKind) (h9 : P.underlying 9 = some .string) (hc : s.data.toList[n]? = some c) : (Instr.index 9 (.string s) (.int k (n : Int))).run P W = .ok (.int .u8 (c.toNat : Int)) W := by
  have e : s[n]? = some c := by
    obtain ⟨⟨l⟩⟩ := s
    have hn : n < l.length := (List.getElem?_eq_some_iff.1 hc).1
    rw [getElem?_pos (ByteArray.mk (Array.mk l)) n hn]
    have : l[n]? = some c := hc
    rw [List.getElem?_eq_getElem hn] at this
    exact this
  simp [Instr.index, asIntOf, run_underlying h9, e]
end

set_option maxRecDepth 100000 in
set_option maxHeartbeats 1000000 in
theorem parse_bad (s : ByteArray) (hs : s.size ≠ 64) (w : World) (hm : s.size ≤ 9223372036854775807) : Calls Tryd.prog 12 #[.string s] w fun e w' => e = .returned (.tuple #[.agg (cells (parseB s.data.toList).1).toArray, .int .i64 (parseB s.data.toList).2]) ∧ Below w.heap.size w w' := by
  have hv := parseB_len (s := s.data.toList) (by rw [← Lib.size_eq]; exact hs)
  have Hv := Lib.hid hv
  clear hv
  have hd : ((s.size : Int) != 64) = true := by rw [bne_iff_ne]; omega
  have Hsz : Hid ((Tryd.prog.info? 24).map (·.size) = some ((cells zero32).toArray).size) := by show _ = _; rw [Tryd.sizeA, List.size_toArray, cells_length]; rfl
  go_enter Tryd.func12, Tryd.ntmps12
  go_wp2_with ((with_reducible refine at_alloc 24 ?_); refine wpList_alloc_rowV rfl 24 rfl (cells zero32) Tryd.zeroA ?_)
  intro w1 hr1 hb1 hs1
  go_wp2_with ((with_reducible refine at_alloc 24 ?_); refine wpList_alloc_rowV rfl 24 rfl (cells zero32) Tryd.zeroA ?_)
  intro w2 hr2 hb2 hs2
  have hr1' := hr1.below (by omega) hb2
  have hB2 : Below w.heap.size w w2 := hb1.trans (hb2.mono (by omega))
  clear hr1 hb1 hb2 hs2 hs1 hs
  go_wp2_with (first
    | ((with_reducible refine at_build 24 ?_); refine wpList_build_to rfl 24 _ rfl (cells zero32) (by kernel_rfl) ?_)
    | ((with_reducible refine at_store 24 ?_); refine wpList_store_row rfl 24 _ _ rfl w.heap.size (cells zero32).toArray rfl rfl 24 _ hr1' Hsz.out rfl (cells_oneCell _) ?_))
  refine bodyPost_ret (results_cell_tmp (fn := Tryd.f12) rfl _ _ w.heap.size 24 _ (0, 0) _ rfl (.int .i64 3) rfl (hr1'.put (cells zero32)) Tryd.underlying24 rfl Hsz.out) rfl ⟨by rw [Hv.out], ?_⟩
  exact below_setRow hB2 (Nat.le_refl _) _

set_option maxRecDepth 100000 in
set_option maxHeartbeats 2000000 in
theorem parse_good (s : ByteArray) (hs : s.size = 64) (w : World) : Calls Tryd.prog 12 #[.string s] w fun e w' => e = .returned (.tuple #[.agg (cells (parseB s.data.toList).1).toArray, .int .i64 (parseB s.data.toList).2]) ∧ Below w.heap.size w w' := by
  have hlen : s.data.toList.length = 64 := by rw [← Lib.size_eq]; exact hs
  have Hlen := Lib.hid hlen
  clear hlen
  have Hsz : Hid ((Tryd.prog.info? 24).map (·.size) = some ((cells zero32).toArray).size) := by show _ = _; rw [Tryd.sizeA, List.size_toArray, cells_length]; rfl
  have hd0 : ((s.size : Int) != 64) = false := by rw [bne_eq_false_iff_eq]; omega
  go_enter Tryd.func12, Tryd.ntmps12
  go_wp2_with ((with_reducible refine at_alloc 24 ?_); refine wpList_alloc_rowV rfl 24 rfl (cells zero32) Tryd.zeroA ?_)
  intro w1 hr1 hb1 hs1
  go_wp2_with ((with_reducible refine at_alloc 24 ?_); refine wpList_alloc_rowV rfl 24 rfl (cells zero32) Tryd.zeroA ?_)
  intro w2 hr2 hb2 hs2
  have hr1' := hr1.below (by omega) hb2
  have hB2 : Below w.heap.size w w2 := hb1.trans (hb2.mono (by omega))
  clear hr1 hb1 hb2 hs2 hs1
  go_wp2_with fail
  clear hd0 hs
  have hgA : w.heap.size < w.heap.size + 1 := by omega
  generalize w.heap.size + 1 = gA at *
  go_loopw [12] (fun i W => ∃ (k : Nat) (xs : List UInt8), k ≤ 32 ∧ i = .int .i64 k ∧ Hid (xs.length = k ∧ unhex (s.data.toList.take (2 * k)) = some xs) ∧ RowV W gA 24 (cells (fill xs 32)) ∧ RowV W w.heap.size 24 (cells zero32) ∧ Below w.heap.size w W) (fun i _ => 32 - (intOf i).toNat)
  case atStart => exact ⟨0, [], Nat.zero_le _, rfl, ⟨rfl, rfl⟩, hr2, hr1', hB2⟩
  case round =>
    obtain ⟨k, xs, hk, hik, Hx, hrA, hrR, hB⟩ := hrel
    subst hik
    clear hr2 hr1' hB2
    by_cases hlt : k < 32
    · obtain ⟨c, hc⟩ : ∃ c, s.data.toList[2 * k]? = some c := ⟨_, List.getElem?_eq_getElem (by rw [Hlen.out]; omega)⟩
      obtain ⟨d, hd⟩ : ∃ d, s.data.toList[2 * k + 1]? = some d := ⟨_, List.getElem?_eq_getElem (by rw [Hlen.out]; omega)⟩
      have hpl : (s.data.toList.take (2 * k)).length = 2 * k := by rw [List.length_take, Hlen.out]; omega
      have hnext : s.data.toList.take (2 * (k + 1)) = s.data.toList.take (2 * k) ++ [c, d] := by
        rw [show 2 * (k + 1) = 2 * k + 1 + 1 by omega, List.take_succ_eq_append_getElem (by rw [Hlen.out]; omega), List.take_succ_eq_append_getElem (by rw [Hlen.out]; omega), (List.getElem?_eq_some_iff.1 hc).2, (List.getElem?_eq_some_iff.1 hd).2, List.append_assoc]
        rfl
      have hall : s.data.toList = s.data.toList.take (2 * (k + 1)) ++ s.data.toList.drop (2 * (k + 1)) := (List.take_append_drop _ _).symm
      have hun : unhex (s.data.toList.take (2 * (k + 1))) = (undig c).bind fun h => (undig d).map fun l => xs ++ [UInt8.ofNat (16 * h + l)] := by
        rw [hnext, unhex_append _ _ k hpl, Hx.out.2, unhex_two]
        cases undig c <;> cases undig d <;> simp
      have hunS : unhex (s.data.toList.take (2 * (k + 1))) = none → unhex s.data.toList = none := by
        intro hn
        rw [hall, unhex_append _ _ (k + 1) (by rw [List.length_take, Hlen.out]; omega), hn]
        rfl
      have Hun := Lib.hid hun
      have HunS := Lib.hid hunS
      clear hnext hall hun hunS hpl
      obtain ⟨p, hp⟩ : ∃ p, 2 * k = p := ⟨_, rfl⟩
      obtain ⟨p1, hp1⟩ : ∃ p1, p + 1 = p1 := ⟨_, rfl⟩
      rw [hp] at hc hd
      rw [hp1] at hd
      have hi1 : ∀ W, (Instr.index 9 (.string s) (.int .i64 (p : Int))).run Tryd.prog W = .ok (.int .u8 (c.toNat : Int)) W := fun W => run_index_str s p c .i64 Tryd.underlying9 hc
      have hi2 : ∀ W, (Instr.index 9 (.string s) (.int .i64 (p1 : Int))).run Tryd.prog W = .ok (.int .u8 (d.toNat : Int)) W := fun W => run_index_str s p1 d .i64 Tryd.underlying9 hd
      have m1 : IntKind.i64.wrap (2 * (k : Int)) = (p : Int) := by rw [IntWalk.i64_in _ (by omega)]; omega
      have m2 : IntKind.i64.wrap ((p : Int) + 1) = (p1 : Int) := by rw [IntWalk.i64_in _ (by omega)]; omega
      clear hc hd hp hp1
      have hdk : decide ((k : Int) < 32) = true := decide_eq_true (by omega)
      have hb1 := c.toNat_lt
      have hb2 := d.toNat_lt
      go_wp2_with fail
      refine wp_region_still_tail 12 (by kernel_rfl) (by kernel_rfl) ?_
      simp only [List.take_succ_cons, List.take_zero, List.drop_succ_cons, List.drop_zero]
      iterate 4 still_step
      still_call (still_of (digit_any c _))
      iterate 5 still_step
      still_call (still_of (digit_any d _))
      still_step
      refine wpStill_nil ?_
      change wpList _ _ _ _ _ wr.drew
      clear hi1 hi2 m1 m2
      replace hrA := hrA.drew
      replace hrR := hrR.drew
      replace hB := hB.drew
      generalize wr.drew = wd at *
      cases hc : undig c with
      | none =>
        have Hv := Lib.hid (parseB_none (HunS.out (by rw [Hun.out, hc]; rfl)))
        have hv1 := digV_none hc
        rw [hv1]
        clear hv1 hc
        go_wp2_with (first
          | ((with_reducible refine at_build 24 ?_); refine wpList_build_to rfl 24 _ rfl (cells zero32) (by kernel_rfl) ?_)
          | ((with_reducible refine at_store 24 ?_); refine wpList_store_row rfl 24 _ _ rfl w.heap.size (cells zero32).toArray rfl rfl 24 _ hrR Hsz.out rfl (cells_oneCell _) ?_))
        refine bodyPost_ret (results_cell_tmp (fn := Tryd.f12) rfl _ _ w.heap.size 24 _ (0, 0) _ rfl (.int .i64 3) rfl (hrR.put (cells zero32)) Tryd.underlying24 rfl Hsz.out) rfl ⟨by rw [Hv.out], ?_⟩
        exact below_setRow hB (Nat.le_refl _) _
      | some h =>
        have h16 := (dig_undig hc).1
        rw [digV_some hc]
        rw [hc] at Hun
        clear hc
        have dh : decide ((h : Int) < 0) = false := decide_eq_false (by omega)
        cases hd : undig d with
        | none =>
          have Hv := Lib.hid (parseB_none (HunS.out (by rw [Hun.out, hd]; rfl)))
          have hv1 := digV_none hd
          rw [hv1]
          clear hv1 hd
          go_wp2_with (first
            | ((with_reducible refine at_build 24 ?_); refine wpList_build_to rfl 24 _ rfl (cells zero32) (by kernel_rfl) ?_)
            | ((with_reducible refine at_store 24 ?_); refine wpList_store_row rfl 24 _ _ rfl w.heap.size (cells zero32).toArray rfl rfl 24 _ hrR Hsz.out rfl (cells_oneCell _) ?_))
          refine bodyPost_ret (results_cell_tmp (fn := Tryd.f12) rfl _ _ w.heap.size 24 _ (0, 0) _ rfl (.int .i64 3) rfl (hrR.put (cells zero32)) Tryd.underlying24 rfl Hsz.out) rfl ⟨by rw [Hv.out], ?_⟩
          exact below_setRow hB (Nat.le_refl _) _
        | some l =>
          have l16 := (dig_undig hd).1
          rw [digV_some hd]
          rw [hd] at Hun
          clear hd
          have dl : decide ((l : Int) < 0) = false := decide_eq_false (by omega)
          have Ho := Lib.hid (or_digits h l h16 l16)
          have Hby := Lib.hid (byte_of (16 * h + l))
          obtain ⟨v, hcell⟩ : ∃ v, wd.cell? ⟨gA, k, none⟩ = some v := ⟨_, hrA.cell (List.getElem?_eq_getElem (by rw [cells_length, fill_length (by rw [Hx.out.1]; omega)]; omega))⟩
          have hfz := hrA.frozen k
          have hset := fill_set (xs := xs) (k := 32) (UInt8.ofNat (16 * h + l)) (by rw [Hx.out.1]; exact hlt)
          rw [Hx.out.1] at hset
          have hW := hrA.setCell k (.int .u8 ((UInt8.ofNat (16 * h + l)).toNat : Int))
          rw [hset] at hW
          have HW := Lib.hid hW
          have HR := Lib.hid (fun v => hrR.setCell_other (p := ⟨gA, k, none⟩) (show w.heap.size ≠ gA by omega) v)
          have HBe := Lib.hid (fun v => hB.setCell (p := ⟨gA, k, none⟩) (show w.heap.size ≤ gA by omega) v)
          have Hx2 : Hid ((xs ++ [UInt8.ofNat (16 * h + l)]).length = k + 1 ∧ unhex (s.data.toList.take (2 * (k + 1))) = some (xs ++ [UInt8.ofNat (16 * h + l)])) := ⟨by rw [List.length_append, Hx.out.1]; rfl, Hun.out⟩
          clear hW hset hrA hrR hB
          have hlA := Tryd.lenA
          go_wp2
          go_roundw
          case rel =>
            refine ⟨k + 1, xs ++ [UInt8.ofNat (16 * h + l)], ?_, ?_, Hx2, ?_, HR.out _, HBe.out _⟩
            · omega
            · go_num
            · rw [Ho.out, Hby.out]
              exact HW.out
          case measure => simp [intOf]; omega
    · obtain rfl : k = 32 := by omega
      have hdk : decide (((32 : Nat) : Int) < 32) = false := by decide
      have hx2 := Hx.out.2
      rw [List.take_of_length_le (by rw [Hlen.out]; omega)] at hx2
      have Hv := Lib.hid (parseB_some Hlen.out hx2)
      have hf : fill xs 32 = xs := by
        have := fill_full (xs := xs)
        rwa [Hx.out.1] at this
      rw [hf] at hrA
      clear hf hx2
      have Hsz2 : Hid ((Tryd.prog.info? 24).map (·.size) = some ((cells xs).toArray).size) := by show _ = _; rw [Tryd.sizeA, List.size_toArray, cells_length, Hx.out.1]
      have Hold2 : Hid (((cells zero32).toArray).size = ((cells xs).toArray).size) := by show _ = _; rw [List.size_toArray, List.size_toArray, cells_length, cells_length, Hx.out.1]; rfl
      go_wp2_with (first
        | ((with_reducible refine at_load 24 ?_); refine wpList_load_row rfl 24 _ rfl gA rfl 24 _ (0, 0) _ hrA Tryd.underlying24 rfl Hsz2.out ?_)
        | ((with_reducible refine at_store 24 ?_); refine wpList_store_row rfl 24 _ _ rfl w.heap.size _ rfl rfl 24 _ hrR Hsz2.out Hold2.out (cells_oneCell _) ?_))
      refine bodyPost_ret (results_cell_tmp (fn := Tryd.f12) rfl _ _ w.heap.size 24 _ (0, 0) _ rfl (.int .i64 0) rfl (hrR.put (cells xs)) Tryd.underlying24 rfl Hsz2.out) rfl ⟨by rw [Hv.out], ?_⟩
      exact below_setRow hB (Nat.le_refl _) _
theorem parse_any (s : ByteArray) (w : World) (hm : s.size ≤ 9223372036854775807) : Calls Tryd.prog 12 #[.string s] w fun e w' => e = .returned (.tuple #[.agg (cells (parseB s.data.toList).1).toArray, .int .i64 (parseB s.data.toList).2]) ∧ Below w.heap.size w w' := by
  by_cases h : s.size = 64
  · exact parse_good s h w
  · exact parse_bad s h w hm
end Go.Proofs.YthkbbghoofknpaaDoor
