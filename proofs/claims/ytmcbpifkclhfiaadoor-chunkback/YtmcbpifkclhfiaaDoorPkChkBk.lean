/-
  Layer 13: the contract of the law ChunkBack.
-/
import Derived.Test.YtmcbpifkclhfiaaDoorPkChkW
namespace Go.Proofs.YtmcbpifkclhfiaaDoor
open Go.RowKit
set_option linter.unusedVariables false
set_option linter.unusedSimpArgs false

/-- A text's chunks as sectors. -/
def secOf (c : List UInt8) : Sec := ⟨wholeB c, wholeB_length c⟩
def secK (b : List UInt8) : List Sec := (chunksK b).map secOf
theorem secK_length (b : List UInt8) : (secK b).length = countK b.length := by rw [secK, List.length_map, chunksK_length]
theorem zeros_rep (k : Nat) : zeros (List.replicate k 0) = true := by simp [zeros]
theorem whole_short {c : List UInt8} (h : c.length ≤ 256) : wholeB c = c ++ List.replicate (256 - c.length) 0 := by
  unfold wholeB fill
  rw [List.take_of_length_le h]
theorem flat_secK (N : Nat) : ∀ b : List UInt8, b.length ≤ N → flatS (secK b) = b ++ List.replicate (countK b.length * 256 - b.length) 0 := by
  induction N with
  | zero =>
    intro b hb
    have : b = [] := List.eq_nil_of_length_eq_zero (by omega)
    subst this
    rfl
  | succ N ih =>
    intro b hb
    by_cases h0 : b.length = 0
    · have : b = [] := List.eq_nil_of_length_eq_zero h0
      subst this
      rfl
    by_cases h1 : b.length ≤ 256
    · rw [secK, chunksK_one (by omega) h1, countK_one (by omega) h1, Nat.one_mul]
      show (secOf b).1 ++ [] = _
      rw [List.append_nil]
      exact whole_short h1
    · have hst := chunksK_step (b := b) (by omega)
      have hd := ih (b.drop 256) (by rw [List.length_drop]; omega)
      have ht : (b.take 256).length = 256 := by rw [List.length_take]; omega
      have hw : wholeB (b.take 256) = b.take 256 := by rw [whole_short (by omega), ht]; simp
      have e : secK b = secOf (b.take 256) :: secK (b.drop 256) := by rw [secK, hst]; rfl
      have hct := countK_step (n := b.length) (by omega)
      have hle := countK_le (b.length - 256)
      rw [e]
      show (secOf (b.take 256)).1 ++ flatS (secK (b.drop 256)) = _
      have e2 : (countK (b.length - 256) + 1) * 256 - b.length = countK (b.length - 256) * 256 - (b.length - 256) := by omega
      rw [hd, show (secOf (b.take 256)).1 = wholeB (b.take 256) from rfl, hw, ← List.append_assoc, List.take_append_drop, List.length_drop, hct, e2]
theorem joined {b : List UInt8} (h0 : 1 ≤ b.length) (h1 : b.length ≤ 2048) : joinC (b.length : Int) (secK b) = 0 ∧ joinB (b.length : Int) (secK b) = b := by
  have hf := flat_secK b.length b (Nat.le_refl _)
  have h := joinC_yes (s := (b.length : Int)) (l := secK b) (by omega) (by rw [secK_length, Int.toNat_natCast]) (by rw [hf, Int.toNat_natCast, List.drop_left]; exact zeros_rep _)
  rw [hf, Int.toNat_natCast, List.take_left] at h
  exact h

set_option maxRecDepth 100000 in
set_option maxHeartbeats 8000000 in
theorem back13_any (HW : Works13) (w : World) (hT : Tab w) (B n c : Nat) (A : Option Addr) (b : List UInt8) (h : Lies w B A b) (hB : B ≤ w.heap.size) (hn : n = b.length) (hc : n ≤ c) (hm : c ≤ maxLen)
    (s : Int) (hs1 : -9223372036854775808 ≤ s) (hs2 : s ≤ 9223372036854775807) (L : Option Addr) (ml cl : Nat) (l : List Sec) (hL : LiesV w B L (secs l)) (hml : ml = l.length) (hmc : ml ≤ cl) :
    Calls Tryd.prog 5 #[.slice A n c, .int .i64 s, .slice L ml cl] w fun e w' => e = .returned (.bool true) ∧ Below w.heap.size w w' := by
  have Hn := Lib.hid hn
  have H := Lib.hid h
  have HL := Lib.hid hL
  have Hml := Lib.hid hml
  have HW := Lib.hid HW
  clear hn h hL hml
  have hm2 : c ≤ 9223372036854775807 := by unfold maxLen at hm; exact hm
  by_cases hbig : 3000 < n
  · have hd : decide (3000 < (n : Int)) = true := decide_eq_true (by omega)
    go_enter Tryd.func5, Tryd.ntmps5
    go_wp2_with fail
    refine (HW.out w hT).mono ?_
    rintro e w1 ⟨rfl, hb1⟩
    go_wp2_with fail
    go_ret
    exact ⟨rfl, hb1⟩
  have hd : decide (3000 < (n : Int)) = false := decide_eq_false (by omega)
  by_cases hbig2 : 10 < ml
  · have hd2 : decide (10 < (ml : Int)) = true := decide_eq_true (by omega)
    go_enter Tryd.func5, Tryd.ntmps5
    go_wp2_with fail
    refine (HW.out w hT).mono ?_
    rintro e w1 ⟨rfl, hb1⟩
    go_wp2_with fail
    go_ret
    exact ⟨rfl, hb1⟩
  have hd2 : decide (10 < (ml : Int)) = false := decide_eq_false (by omega)
  obtain ⟨m, hmm⟩ : ∃ m, countK n = m := ⟨_, rfl⟩
  have hmb : m ≤ 12 := by rw [← hmm]; unfold countK; omega
  go_enter Tryd.func5, Tryd.ntmps5
  go_wp2_with fail
  refine (rsplit_any n A n c b w B (Nat.le_refl _) H.out hB Hn.out hc hm (by omega)).mono ?_
  rintro e w2 ⟨LP, ps, cp, rfl, hps, hpa, hpo, _, hcp, hb2⟩
  rw [hmm] at hcp ⊢
  have hlen : ps.length = m := by rw [pieces_len hps, ← Hn.out]; exact hmm
  have Hsk : Hid ((secK b).length = m) := by show _ = _; rw [secK_length, ← Hn.out]; exact hmm
  have HB2 := Lib.hid hb2
  have HT2 : Hid (Tab w2) := hT.below hb2
  have Hps := Lib.hid hps
  have Hpa := Lib.hid hpa
  have Hpo := Lib.hid hpo
  have Hlen := Lib.hid hlen
  have Hmm := Lib.hid hmm
  have Hx2 : Hid (Lies w2 B A b) := H.out.below (hb2.mono hB)
  have HL2 : Hid (LiesV w2 B L (secs l)) := HL.out.below (hb2.mono hB)
  have hsw : w.heap.size ≤ w2.heap.size := hb2.size
  obtain ⟨K, hK⟩ : ∃ K, w2.heap.size = K := ⟨_, rfl⟩
  have HK := Lib.hid hK
  have hBK : B ≤ K := by omega
  have h00 : w2.ownsRow K 42 256 (.slice none 0 0) 0 (secs ((secK b).take 0)) := World.ownsRow_nil _ _ _ _
  have hB20 : Below K w2 w2 := Below.refl _ _
  have hKs : K ≤ w2.heap.size := by omega
  clear hps hpa hpo hlen hb2 hmm hT hK
  go_wp2_with fail
  go_loopw [7, 9] (fun v i W => ∃ k : Nat, k ≤ m ∧ i = .int .i64 k ∧ Hid (W.ownsRow K 42 256 v k (secs ((secK b).take k))) ∧ Hid (Below K w2 W) ∧ Hid (K ≤ W.heap.size)) (fun _ i _ => m - (intOf i).toNat)
  case atStart => exact ⟨0, Nat.zero_le _, rfl, h00, hB20, hKs⟩
  case round =>
    obtain ⟨k, hk, rfl, HO, HB, HZ⟩ := hrel
    clear h00 hB20 hKs
    by_cases hlt : k < m
    · obtain ⟨b2, o2, p, rfl, hp, hcp0, hok0⟩ := Hpa.out.at_ (k := k) (by rw [Hlen.out]; exact hlt)
      have hokB := Hpo.out p (List.mem_of_getElem? hp)
      have hxs : (secK b)[k]? = some (secOf p.xs) := by rw [secK, ← Hps.out, List.getElem?_map, List.getElem?_map, hp]; rfl
      have hb2l : b2 < K := by rw [← HK.out]; exact World.block_lt_of_cell? w2 ⟨b2, o2 + k, none⟩ hcp0
      have hcpW : wr.cell? ⟨b2, o2 + k, none⟩ = some (.slice p.A p.n p.c) := (HB.out.cell (p := ⟨b2, o2 + k, none⟩) hb2l).trans hcp0
      have HlW : Hid (Lies wr B p.A p.xs) := hokB.1.below (HB.out.mono hBK)
      have Hpn := Lib.hid hokB.2.1
      have Hnx : Hid ((secK b).take (k + 1) = (secK b).take k ++ [secOf p.xs]) := by show _ = _; rw [List.take_add_one, hxs]; rfl
      have hBW : B ≤ wr.heap.size := by have := HZ.out; omega
      clear hok0 hp hcp0 hokB hxs
      go_wp2_with fail
      refine (ksector_any p.A p.n p.c p.xs wr B HlW.out Hpn.out hBW).mono ?_
      rintro e w3 ⟨rfl, hb3⟩
      have HO3 := Lib.hid (own_below HO.out hb3)
      have HB3 : Hid (Below K w2 w3) := HB.out.trans (hb3.mono HZ.out)
      have HZ3 : Hid (K ≤ w3.heap.size) := Nat.le_trans HZ.out hb3.size
      have Hcs : Hid (cells (wholeB p.xs) = (secOf p.xs).cs) := rfl
      rw [Hcs.out]
      clear Hcs
      clear HO HB HZ hb3 hcpW HlW hBW
      go_wp2_with ((with_reducible refine at_buildSlice 41 ?_); refine wpList_buildSlice_oneV rfl 41 42 _ rfl (secOf p.xs).cs rfl Tryd.underlying41 Tryd.infoS13 (Sec.cs_length _) (by decide) (by decide) ?_)
      intro w4 hr4 hb4 hs4
      have HO4 := Lib.hid (own_below HO3.out hb4)
      have HB4 : Hid (Below K w2 w4) := HB3.out.trans (hb4.mono HZ3.out)
      have HZ4 : Hid (K ≤ w4.heap.size) := Nat.le_trans HZ3.out hb4.size
      have Hr4 := Lib.hid hr4
      clear HO3 HB3 HZ3 hb4 hr4 hs4
      go_wp2_with (at_builtin; refine wpList_append_one rfl _ _ 41 rfl K 42 Tryd.underlying41 Tryd.infoS13 rfl (by decide) u7 k _ rfl HO4.out w3.heap.size (secOf p.xs).cs rfl Hr4.out (Sec.cs_length _) (Sec.one _) (by unfold maxLen; omega) (by omega) HZ4.out ?_)
      intro v5 w5 ho5 hg5 _
      have HO5 : Hid (w5.ownsRow K 42 256 v5 (k + 1) (secs ((secK b).take (k + 1)))) := by
        show World.ownsRow _ _ _ _ _ _ _
        rw [Hnx.out, secs_snoc]
        exact ho5
      have HB5 : Hid (Below K w2 w5) := HB4.out.grown hg5 HZ4.out (own_ge HO4.out)
      have HZ5 : Hid (K ≤ w5.heap.size) := Nat.le_trans HZ4.out hg5.size
      clear ho5 hg5 HO4 HB4 HZ4 Hr4
      go_wp2_with fail
      go_roundw
      case rel => exact ⟨k + 1, by omega, by go_num, HO5, HB5, HZ5⟩
      case measure => simp [intOf]; omega
    · obtain rfl : k = m := by omega
      have ho := HO.out
      rw [List.take_of_length_le (by rw [Hsk.out]; exact Nat.le_refl _)] at ho
      obtain ⟨LS, cs, hv, hls1, hls2, hls3, hls4⟩ := lies_ownS ho
      subst hv
      have Hls1 := Lib.hid hls1
      clear hls1
      have hx3 : Lies wr B A b := Hx2.out.below (HB.out.mono hBK)
      have hL3 : LiesV wr B L (secs l) := HL2.out.below (HB.out.mono hBK)
      have hT3 : Tab wr := HT2.out.belowN (by have := HT2.out.pos; rw [← HK.out]; exact this) HB.out
      have hB3 : Below w.heap.size w wr := HB2.out.trans (HB.out.mono (by rw [← HK.out]; exact hsw))
      have hB3s : B ≤ wr.heap.size := by have := HZ.out; omega
      clear HO HB HZ ho
      go_wp2_with fail
      refine (kjoin_any n LS k cs (secK b) wr wr.heap.size hls4 (Nat.le_refl _) Hls1.out (by omega) (by omega) (by omega)).mono ?_
      rintro e w4 ⟨A4, c4, rfl, h41, h42, hl4, hb4⟩
      have hT4 := hT3.below hb4
      have hL4 := hL3.below (hb4.mono hB3s)
      have hx4 := hx3.below (hb4.mono hB3s)
      have hB4 : Below w.heap.size w w4 := hB3.trans (hb4.mono hB3.size)
      have hB4s : B ≤ w4.heap.size := Nat.le_trans hB3s hb4.size
      clear hT3 hL3 hx3 hB3 hb4 hls4
      by_cases hck : 1 ≤ n ∧ n ≤ 2048
      · have hj := joined (b := b) (by rw [← Hn.out]; exact hck.1) (by rw [← Hn.out]; exact hck.2)
        rw [← Hn.out] at hj
        rw [hj.2] at hl4 h41 ⊢
        rw [hj.1, ← Hn.out]
        rw [← Hn.out] at h41
        have hcode : checkK n = 0 := by unfold checkK; rw [if_neg (by omega), if_neg (by omega)]
        clear hj
        go_wp2_with fail
        refine (rcheck_any A n c w4 (by omega)).mono ?_
        rintro e w5 ⟨rfl, rfl⟩
        rw [hcode]
        go_wp2_with fail
        refine (same_any A4 A n n c4 c b b w4 w4.heap.size Hn.out Hn.out hl4 (hx4.le hB4s)).mono ?_
        rintro e w5 ⟨rfl, rfl⟩
        rw [beq_self_eq_true b]
        have hT5 := hT4
        go_wp2_with fail
        refine (kjoin_any s L ml cl l w4 B hL4 hB4s Hml.out (by omega) hs1 hs2).mono ?_
        rintro e w6 ⟨A6, c6, rfl, h61, h62, hl6, hb6⟩
        have hT6 := hT4.below hb6
        have hL6 := hL4.below (hb6.mono hB4s)
        have hB6 : Below w.heap.size w w6 := hB4.trans (hb6.mono hB4.size)
        have hB6s : B ≤ w6.heap.size := Nat.le_trans hB4s hb6.size
        clear hT5 hT4 hL4 hB4 hb6
        go_wp2_with fail
        refine (rjoin_any s L ml cl l w6 B hL6 hB6s Hml.out (by omega) hs1 hs2).mono ?_
        rintro e w7 ⟨A7, c7, rfl, h71, h72, hl7, hb7⟩
        have hT7 := hT6.below hb7
        have hl6' := (hl6.below hb7).le hb7.size
        have hB7 : Below w.heap.size w w7 := hB6.trans (hb7.mono hB6.size)
        clear hT6 hL6 hB6 hb7 hl6
        generalize hjb : joinB s l = jb at *
        generalize hjc : joinC s l = jc at *
        clear hjb hjc
        go_wp2_with fail
        refine (same_any A6 A7 jb.length jb.length c6 c7 jb jb w7 w7.heap.size rfl rfl hl6' hl7).mono ?_
        rintro e w8 ⟨rfl, rfl⟩
        rw [beq_self_eq_true jb]
        go_wp2_with fail
        refine (HW.out w7 hT7).mono ?_
        rintro e w9 ⟨rfl, hb9⟩
        go_wp2_with fail
        go_ret
        exact ⟨rfl, hB7.trans (hb9.mono hB7.size)⟩
      · have hcode : (checkK n == 0) = false := by
          unfold checkK
          by_cases h0 : n = 0
          · rw [if_pos h0]; rfl
          · rw [if_neg h0, if_pos (by omega)]; rfl
        generalize joinB (n : Int) (secK b) = tb at *
        generalize joinC (n : Int) (secK b) = tc at *
        generalize hck9 : checkK n = ck at *
        clear hl4 h41
        go_wp2_with fail
        refine (rcheck_any A n c w4 (by omega)).mono ?_
        rw [hck9]
        rintro e w5 ⟨rfl, rfl⟩
        have hT5 := hT4
        go_wp2_with fail
        refine (kjoin_any s L ml cl l w4 B hL4 hB4s Hml.out (by omega) hs1 hs2).mono ?_
        rintro e w6 ⟨A6, c6, rfl, h61, h62, hl6, hb6⟩
        have hT6 := hT4.below hb6
        have hL6 := hL4.below (hb6.mono hB4s)
        have hB6 : Below w.heap.size w w6 := hB4.trans (hb6.mono hB4.size)
        have hB6s : B ≤ w6.heap.size := Nat.le_trans hB4s hb6.size
        clear hT5 hT4 hL4 hB4 hb6
        go_wp2_with fail
        refine (rjoin_any s L ml cl l w6 B hL6 hB6s Hml.out (by omega) hs1 hs2).mono ?_
        rintro e w7 ⟨A7, c7, rfl, h71, h72, hl7, hb7⟩
        have hT7 := hT6.below hb7
        have hl6' := (hl6.below hb7).le hb7.size
        have hB7 : Below w.heap.size w w7 := hB6.trans (hb7.mono hB6.size)
        clear hT6 hL6 hB6 hb7 hl6
        generalize hjb : joinB s l = jb at *
        generalize hjc : joinC s l = jc at *
        clear hjb hjc
        go_wp2_with fail
        refine (same_any A6 A7 jb.length jb.length c6 c7 jb jb w7 w7.heap.size rfl rfl hl6' hl7).mono ?_
        rintro e w8 ⟨rfl, rfl⟩
        rw [beq_self_eq_true jb]
        go_wp2_with fail
        refine (HW.out w7 hT7).mono ?_
        rintro e w9 ⟨rfl, hb9⟩
        go_wp2_with fail
        go_ret
        exact ⟨rfl, hB7.trans (hb9.mono hB7.size)⟩
end Go.Proofs.YtmcbpifkclhfiaaDoor
