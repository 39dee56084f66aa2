/-
  Layer 13: the contracts of the reference's Words and Text.
-/
import Derived.Test.YtmcbpifkclhfiaaDoorPkChkH
import Derived.Test.YtmcbpifkclhfiaaDoorPkRSame
import Derived.Test.YtmcbpifkclhfiaaDoorPkStrEq
import Derived.Test.YtmcbpifkclhfiaaDoorPkChkG
namespace Go.Proofs.YtmcbpifkclhfiaaDoor
open Go.RowKit
set_option linter.unusedVariables false

/-- A row of bytes that grows while the blocks from M1 to M0 stay as they were in w3. -/
structure Grow13 (K M1 M0 : Nat) (w w3 : World) (v : Value) (bs : List UInt8) (W : World) : Prop where
  own : W.ownsRow K 5 1 v bs.length (cells bs)
  out : ∀ j, v.ownBlock = some j → j < M1 ∨ M0 ≤ j
  mid : ∀ k, M1 ≤ k → k < M0 → W.heap[k]? = w3.heap[k]?
  low : Below K w W
  size : M0 ≤ W.heap.size
section
variable {K M1 M0 : Nat} {w w3 W W' : World} {v v' : Value} {bs ys : List UInt8}
theorem Grow13.below (h : Grow13 K M1 M0 w w3 v bs W) (hw : K ≤ w.heap.size) (hb : Below W.heap.size W W') : Grow13 K M1 M0 w w3 v bs W' :=
  ⟨own_below h.own hb, h.out, fun k h1 h2 => (hb.block k (by have := h.size; omega)).trans (h.mid k h1 h2), h.low.trans (hb.mono (by have := h.low.size; omega)), Nat.le_trans h.size hb.size⟩
theorem Grow13.grown (h : Grow13 K M1 M0 w w3 v bs W) (hw : K ≤ w.heap.size) (ho : W'.ownsRow K 5 1 v' (bs.length + ys.length) (cells (bs ++ ys))) (hg : W.grownBy W' v.ownBlock) (hv : v'.ownBlock = v.ownBlock ∨ v'.ownBlock = some W.heap.size) : Grow13 K M1 M0 w w3 v' (bs ++ ys) W' := by
  refine ⟨by rw [List.length_append]; exact ho, ?_, ?_, ?_, Nat.le_trans h.size hg.size⟩
  · intro j hj
    rcases hv with e | e
    · exact h.out j (e ▸ hj)
    · rw [e] at hj
      injection hj with hj
      have := h.size
      omega
  · intro k h1 h2
    refine (hg.block k (by have := h.size; omega) (fun e => ?_)).trans (h.mid k h1 h2)
    have := h.out k e.symm
    omega
  · exact h.low.grown hg (by have := h.low.size; omega) (own_ge h.own)
/-- A block laid in the row's time that holds something of another type. -/
theorem Grow13.apart {G : Nat} {t : TypeId} {cs : List Value} (h : Grow13 K M1 M0 w w3 v bs W) (hr : RowV W G t cs) (ht : 5 ≠ t) (hg : W.grownBy W' v.ownBlock) : RowV W' G t cs := hr.keep hg (own_row_apart h.own hr ht)
end

set_option maxRecDepth 100000 in
set_option maxHeartbeats 4000000 in
theorem rwords13_any (A : Option Addr) (n c : Nat) (b : List UInt8) (w : World) (B : Nat) (h : Lies w B A b) (hB : B ≤ w.heap.size) (hn : n = b.length) (hc : n ≤ c) (hm : c ≤ maxLen) (hbd : n ≤ 100000) :
    Calls Tryd.prog 29 #[.slice A n c] w fun e w' => ∃ A' c', e = .returned (.slice A' (wordsK b.length (adrsK b)).length c') ∧ Lies w' w'.heap.size A' (wordsK b.length (adrsK b)) ∧ Below w.heap.size w w' := by
  obtain ⟨i0, hi, hz0, hz1, hz2⟩ := info_parts Tryd.info5
  have Hn := Lib.hid hn
  have H := Lib.hid h
  clear hn h
  go_enter Tryd.func29, Tryd.ntmps29
  go_wp2_with ((with_reducible refine at_convert 22 ?_); refine wpList_const rfl 22 _ rfl Tryd.underlying22 Tryd.underlying5 #[.int .u8 116, .int .u8 101, .int .u8 120, .int .u8 116] 4 4 rfl [116, 101, 120, 116] rfl ?_)
  intro w1 hl1 hb1 hs1
  have hl1' := hl1.le (B' := w1.heap.size) (by omega)
  obtain ⟨K, hK⟩ : ∃ K, w.heap.size = K := ⟨_, rfl⟩
  have hKw : K ≤ w.heap.size := by omega
  rw [hK] at hb1 hl1' hB ⊢
  have hs1' : K < w1.heap.size := by omega
  clear hs1 hl1
  go_wp2_with fail
  refine (rput_any 4 n (n : Int) 4 w1 rfl rfl (by omega) (by omega) (by omega)).mono ?_
  rintro e w2 ⟨A2, c2, rfl, h21, h22, hl2, hb2, _⟩
  have hl12 := hl1'.below hb2
  have hB2 : Below K w w2 := hb1.trans (hb2.mono (by omega))
  have hs2 : K < w2.heap.size := by have := hb2.size; omega
  have Hp2 : Hid ((putB n 4).length = 4) := putB_length _ _
  have Hpne : Hid (putB n 4 ≠ []) := by show _ ≠ _; intro h9; have := Hp2.out; rw [h9] at this; cases this
  rw [Hp2.out] at h21 ⊢
  clear hb1 hb2 hl1'
  go_wp2_with (at_builtin; refine wpList_append_full rfl _ _ 22 rfl i0 Tryd.underlying22 hi hz0 hz1 hz2 _ 4 4 [116, 101, 120, 116] (putB n 4) rfl w1.heap.size hl12 rfl (by decide) w2.heap.size A2 4 c2 rfl hl2 Hp2.out.symm Hpne.out (by omega) (by omega) ?_)
  intro v3 w3 ho3 hg3
  have hb3 : Below w2.heap.size w2 w3 := ⟨hg3.os, hg3.tape, hg3.output, hg3.size, fun k hk => hg3.block k hk (by simp)⟩
  have hB3 : Below K w w3 := hB2.trans (hb3.mono (by omega))
  have ho3' := own_rebase (base' := K) ho3 (fun k e => by have := own_ge ho3 k e; omega)
  have hlt3 : ∀ j, v3.ownBlock = some j → j < w3.heap.size := fun j e => own_lt ho3 e
  have hs3 : K < w3.heap.size := by have := hb3.size; omega
  obtain ⟨P, hP⟩ : ∃ P, [116, 101, 120, 116] ++ putB n 4 = P := ⟨_, rfl⟩
  have hPl : P.length = 8 := by rw [← hP, List.length_append, Hp2.out]; rfl
  have HP : Hid (P = [116, 101, 120, 116] ++ putB n 4) := hP.symm
  replace ho3' : w3.ownsRow K 5 1 v3 8 (cells ([116, 101, 120, 116] ++ putB n 4)) := ho3'
  rw [hP] at ho3'
  clear hb3 hB2 ho3 hg3 hl2 hl12 h21 h22 hP Hpne
  go_wp2_with fail
  refine (rsplit_any n A n c b w3 B (Nat.le_refl _) (H.out.below (hB3.mono hB)) (by omega) Hn.out hc hm hbd).mono ?_
  rintro e w4 ⟨L, ps, cl, rfl, hps, hpa, hpo, hfr, hcl, hb4⟩
  have hlen : ps.length = countK n := by rw [pieces_len hps, ← Hn.out]
  have hG0 : Grow13 K w3.heap.size w4.heap.size w w4 v3 P w4 := ⟨own_below (by rw [hPl]; exact ho3') hb4, fun j e => .inl (hlt3 j e), fun _ _ _ => rfl, hB3.trans (hb4.mono (by omega)), Nat.le_refl _⟩
  have Hps := Lib.hid hps
  have Hpa := Lib.hid hpa
  have Hpo := Lib.hid hpo
  have Hfr := Lib.hid hfr
  have HB4 := Lib.hid (hB3.trans (hb4.mono (by omega)))
  have h34 : w3.heap.size ≤ w4.heap.size := hb4.size
  obtain ⟨m, hmm⟩ : ∃ m, countK n = m := ⟨_, rfl⟩
  have hmb : m ≤ 1000 := by rw [← hmm]; unfold countK; omega
  rw [hmm] at hlen hcl ⊢
  have Hlen := Lib.hid hlen
  have Hmm := Lib.hid hmm
  have Hal : Hid ((adrsK b).length = m) := by show _ = _; rw [adrsK_length, ← Hn.out]; exact hmm
  clear hps hpa hpo hfr hlen hmm hb4 hB3 ho3' hlt3
  go_wp2_with fail
  go_loopw [3, 5] (fun v i W => ∃ k : Nat, k ≤ m ∧ i = .int .i64 k ∧ Hid (Grow13 K w3.heap.size w4.heap.size w w4 v (P ++ ((adrsK b).take k).flatten) W)) (fun _ i _ => m - (intOf i).toNat)
  case atStart => exact ⟨0, Nat.zero_le _, rfl, by rw [List.take_zero, List.flatten_nil, List.append_nil]; exact hG0⟩
  case round =>
    obtain ⟨k, hk, rfl, HG⟩ := hrel
    clear hG0
    by_cases hlt : k < m
    · obtain ⟨b2, o2, p, rfl, hp, hcp, hok⟩ := Hpa.out.at_ (k := k) (by rw [Hlen.out]; exact hlt)
      have hb2f : w3.heap.size ≤ b2 := Hfr.out _ rfl
      have hb2l : b2 < w4.heap.size := World.block_lt_of_cell? w4 ⟨b2, o2 + k, none⟩ hcp
      have hcpW : wr.cell? ⟨b2, o2 + k, none⟩ = some (.slice p.A p.n p.c) := (World.cell?_of_block (HG.out.mid b2 hb2f hb2l)).trans hcp
      have hokB := Hpo.out p (List.mem_of_getElem? hp)
      have hxs : (chunksK b)[k]? = some p.xs := by rw [← Hps.out, List.getElem?_map, hp]; rfl
      have hkc : k < countK b.length := by rw [← Hn.out, Hmm.out]; exact hlt
      have hxe : p.xs = chunkK b k := by rw [chunksK_get hkc] at hxs; exact (Option.some.inj hxs).symm
      have hxl : 0 < p.xs.length ∧ p.xs.length ≤ 256 := by rw [hxe, chunkK_length]; exact ⟨partK_pos hkc, partK_le _ _⟩
      obtain ⟨ad, had⟩ : ∃ ad, adrK13 p.xs = ad := ⟨_, rfl⟩
      have hadl : ad.length = 32 := by rw [← had]; exact adrK13_length _
      have Hnext : Hid (((adrsK b).take (k + 1)).flatten = ((adrsK b).take k).flatten ++ ad) := flatten_take_succ (by rw [adrsK, List.getElem?_map, hxs, ← had]; rfl)
      have hlB : Lies w4 B p.A p.xs := hokB.1
      have hlW : Lies wr B p.A p.xs := by
        refine hlB.keep (fun q hq => ?_)
        rw [HG.out.low.cell (p := q) (by omega), HB4.out.cell (p := q) (by omega)]
      have hpn := hokB.2.1
      have HlW := Lib.hid hlW
      have Hpn := Lib.hid hpn
      have Had := Lib.hid had
      have Hadl := Lib.hid hadl
      have hKW : K ≤ wr.heap.size := by have := HG.out.size; omega
      have hBW : B ≤ wr.heap.size := by omega
      have hpn1 : 0 < p.n := by omega
      have hpn2 : p.n ≤ 10000 := by omega
      clear hcp hok hp hokB hxs hxe hxl had hadl hlB hlW hpn
      go_wp2_with fail
      refine (raddress_any p.A p.n p.c p.xs wr B HlW.out hBW Hpn.out hpn1 hpn2).mono ?_
      rintro e w5 ⟨rfl, hb5⟩
      rw [Had.out]
      have HG5 := Lib.hid (HG.out.below hKw hb5)
      clear HG hcpW HlW hb5 hKW hBW
      have Hsz : Hid ((Tryd.prog.info? 37).map (·.size) = some ((cells ad).toArray).size) := by show _ = _; rw [Tryd.sizeA, List.size_toArray, cells_length, Hadl.out]
      have Hold : Hid (((cells zero32).toArray).size = ((cells ad).toArray).size) := by show _ = _; rw [List.size_toArray, List.size_toArray, cells_length, cells_length, Hadl.out]; rfl
      go_wp2_with ((with_reducible refine at_alloc 37 ?_); refine wpList_alloc_rowV rfl 37 rfl (cells zero32) Tryd.zeroA ?_)
      intro w6 hr6 hb6 hs6
      have HG6 := Lib.hid (HG5.out.below hKw hb6)
      obtain ⟨G, hG⟩ : ∃ G, w5.heap.size = G := ⟨_, rfl⟩
      have HGl : Hid (∀ j, u3.ownBlock = some j → j < G) := by show _; intro j hj; rw [← hG]; exact own_lt HG5.out.own hj
      have hGM : w4.heap.size ≤ G := by rw [← hG]; exact HG5.out.size
      rw [hG] at hr6 hs6 ⊢
      clear hb6 HG5 hG
      go_wp2_with ((with_reducible refine at_store 37 ?_); refine wpList_store_rowV rfl 37 _ _ rfl G (cells ad) rfl rfl 37 _ hr6 Hsz.out Hold.out (cells_oneCell _) ?_)
      intro w7 hr7 hg7 hs7
      have HG7 : Hid (Grow13 K w3.heap.size w4.heap.size w w4 u3 (P ++ ((adrsK b).take k).flatten) w7) := by
        refine ⟨HG6.out.own.kept hg7 (.inr (fun e => by have := HGl.out G e; omega)), HG6.out.out, fun j h1 h2 => (hg7.block j (by have := HG6.out.size; omega) (fun e => by injection e with e; omega)).trans (HG6.out.mid j h1 h2), HG6.out.low.grown hg7 (by have := HG6.out.size; omega) (fun j e => by injection e with e; omega), by have := HG6.out.size; have := hg7.size; omega⟩
      have HR7 := Lib.hid hr7
      clear HG6 hg7 hr6 hs6 hs7 hr7
      have HG8 : Hid (Grow13 K w3.heap.size w4.heap.size w w4 u3 ((P ++ ((adrsK b).take k).flatten) ++ ad.take 0) w7) := by
        show Grow13 _ _ _ _ _ _ _ _
        rw [List.take_zero, List.append_nil]
        exact HG7.out
      clear HG7 HGl
      generalize hQ : P ++ ((adrsK b).take k).flatten = Q at *
      have HQ := Lib.hid hQ
      have HQl : Hid (Q.length ≤ 100000) := by
        show _ ≤ _
        rw [← hQ, List.length_append, flatten_len (fun x hx => adrsK_all b x (List.mem_of_mem_take hx)), List.length_take]
        omega
      clear hQ
      generalize wr = wo at *
      generalize u3 = vo at *
      go_wp2_with fail
      go_loopw [3, 7] (fun v i W => ∃ j : Nat, j ≤ 32 ∧ i = .int .i64 j ∧ Hid (Grow13 K w3.heap.size w4.heap.size w w4 v (Q ++ ad.take j) W) ∧ Hid (RowV W G 37 (cells ad))) (fun _ i _ => 32 - (intOf i).toNat)
      case atStart => exact ⟨0, Nat.zero_le _, rfl, HG8, HR7⟩
      case round =>
        obtain ⟨j, hj, rfl, HG1, HR1⟩ := hrel
        clear HG8 HR7
        by_cases hj2 : j < 32
        · obtain ⟨y, hy⟩ : ∃ y, ad[j]? = some y := ⟨ad[j]'(by rw [Hadl.out]; exact hj2), List.getElem?_eq_getElem _⟩
          have hcell : wr.cell? ⟨G, j, none⟩ = some (.int .u8 (y.toNat : Int)) := HR1.out.cell (cells_get hy)
          have Hy : Hid (Q ++ ad.take (j + 1) = Q ++ ad.take j ++ [y]) := by show _ = _; rw [byte_taken hy, List.append_assoc]
          have hba : Below wr.heap.size wr (wr.alloc (.cells #[.int .u8 (y.toNat : Int)] 5)) := (Below.refl _ _).alloc (Nat.le_refl _) _
          have HGa := Lib.hid (HG1.out.below hKw hba)
          have HRa := Lib.hid (HR1.out.alloc (.cells #[.int .u8 (y.toNat : Int)] 5))
          have hnews : ∀ (i : Nat) (u : Value), [Value.int .u8 (y.toNat : Int)][i]? = some u → (wr.alloc (.cells #[.int .u8 (y.toNat : Int)] 5)).cell? ((⟨wr.heap.size, 0, none⟩ : Addr).add i) = some u := cell_one_new _ _ _
          have HL2 : Hid ((Q ++ ad.take j).length ≤ 100032) := by show _ ≤ _; rw [List.length_append, List.length_take]; have := HQl.out; omega
          have HZ : Hid (K ≤ (wr.alloc (.cells #[.int .u8 (y.toNat : Int)] 5)).heap.size) := by show _ ≤ _; have := HGa.out.size; omega
          have Hbase : Hid ((Q ++ ad.take j).length + 1 ≤ maxLen ∧ ((Q ++ ad.take j).length + 1) * 1 ≤ 140737488355328) := by
            show _ ∧ _
            have := HL2.out
            unfold maxLen
            omega
          have Hyv : Hid (cells [y] = [Value.int .u8 (y.toNat : Int)]) := rfl
          clear hba hy HG1 HR1
          generalize hyi : (y.toNat : Int) = yi at *
          go_wp2_with (at_builtin; refine wpList_append_own_at _ rfl _ _ 22 rfl K 5 i0 (.int .u8 0) 1 1 Tryd.underlying22 hi hz0 hz1 hz2 rfl (by decide) u3 (Q ++ ad.take j).length _ rfl HGa.out.own ⟨wr.heap.size, 0, none⟩ 1 1 [Value.int .u8 yi] rfl rfl hnews (by simp [Value.oneCell']) Hbase.out.1 Hbase.out.2 HZ.out ?_)
          intro v9 w9 ho9 hg9 _ hv9
          have HG9 : Hid (Grow13 K w3.heap.size w4.heap.size w w4 v9 (Q ++ ad.take (j + 1)) w9) := by
            show Grow13 _ _ _ _ _ _ _ _
            rw [Hy.out]
            refine HGa.out.grown hKw (ys := [y]) ?_ hg9 (by rw [World.size_alloc]; exact hv9)
            rw [cells_append, Hyv.out, List.length_append, List.length_take]
            exact ho9
          have HR9 := Lib.hid (HGa.out.apart HRa.out (by decide) hg9)
          clear ho9 hg9 hv9 HGa HRa hnews HZ Hbase hcell
          go_wp2_with fail
          go_roundw
          case rel => exact ⟨j + 1, by omega, by go_num, HG9, HR9⟩
          case measure => simp [intOf]; omega
        · obtain rfl : j = 32 := by omega
          have HG9 : Hid (Grow13 K w3.heap.size w4.heap.size w w4 u3 (P ++ ((adrsK b).take (k + 1)).flatten) wr) := by
            have h := HG1.out
            rw [List.take_of_length_le (Nat.le_of_eq Hadl.out), ← HQ.out, List.append_assoc, ← Hnext.out] at h
            exact h
          clear HG1 HR1
          go_wp2_with fail
          go_roundw
          case rel => exact ⟨k + 1, by omega, by go_num, HG9⟩
          case measure => simp [intOf]; omega
    · obtain rfl : k = m := by omega
      have ho := HG.out.own
      have hlow := HG.out.low
      rw [List.take_of_length_le (by rw [Hal.out]; exact Nat.le_refl _)] at ho
      have e0 : P ++ (adrsK b).flatten = wordsK b.length (adrsK b) := by rw [HP.out, Hn.out]; rfl
      rw [e0] at ho
      obtain ⟨A9, c9, hv9, h91, h92, h93, hl9⟩ := Lies.of_own ho
      have hfin : ∃ A' c', Ending.returned u3 = .returned (.slice A' (wordsK b.length (adrsK b)).length c') ∧ Lies wr wr.heap.size A' (wordsK b.length (adrsK b)) ∧ Below w.heap.size w wr := ⟨A9, c9, by rw [hv9], hl9, by rw [hK]; exact hlow⟩
      have HF := Lib.hid hfin
      clear ho hlow e0 hv9 hl9 hfin
      go_wp2_with fail
      go_ret
      obtain ⟨A', c', h1, h2, h3⟩ := HF.out
      rw [hK] at h3
      exact ⟨A', ⟨c', h1⟩, h2, h3⟩

set_option maxRecDepth 100000 in
set_option maxHeartbeats 1000000 in
theorem rtext13_any (A : Option Addr) (n c : Nat) (b : List UInt8) (w : World) (B : Nat) (h : Lies w B A b) (hB : B ≤ w.heap.size) (hn : n = b.length) (hc : n ≤ c) (hm : c ≤ maxLen) (hbd : n ≤ 100000) :
    Calls Tryd.prog 19 #[.slice A n c] w fun e w' => e = .returned (.agg (cells (textK b)).toArray) ∧ Below w.heap.size w w' := by
  have Hn := Lib.hid hn
  have H := Lib.hid h
  have Hwl : Hid ((wordsK b.length (adrsK b)).length ≤ 100000) := by show _ ≤ _; rw [textMark_len _ _ (adrsK_all b), adrsK_length, ← hn]; unfold countK; omega
  clear hn h
  go_enter Tryd.func19, Tryd.ntmps19
  go_wp2_with ((with_reducible refine at_alloc 37 ?_); refine wpList_alloc_rowV rfl 37 rfl (cells zero32) Tryd.zeroA ?_)
  intro w1 hr1 hb1 hs1
  go_wp2_with fail
  refine (rwords13_any A n c b w1 B (H.out.below (hb1.mono hB)) (by omega) Hn.out hc hm hbd).mono ?_
  rintro e w2 ⟨A2, c2, rfl, hl2, hb2⟩
  have hr2 := hr1.below hr1.lt hb2
  have hB2 : Below w.heap.size w w2 := hb1.trans (hb2.mono (by omega))
  have hw := Hwl.out
  have e0 : Hid (shaB (wordsK b.length (adrsK b)) = textK b) := rfl
  have Hw9 : Hid ((wordsK b.length (adrsK b)).length = (wordsK b.length (adrsK b)).length) := rfl
  generalize wordsK b.length (adrsK b) = ws at *
  clear hr1 hb1 hb2 hs1
  go_wp2_with fail
  refine (rsum_any A2 ws.length c2 ws w2 w2.heap.size hl2 (Nat.le_refl _) rfl hw).mono ?_
  rintro e w3 ⟨rfl, hb3⟩
  rw [e0.out]
  have hr3 := hr2.below hr2.lt hb3
  have hB3 := hB2.trans (hb3.mono hB2.size)
  have Hsz : Hid ((Tryd.prog.info? 37).map (·.size) = some ((cells (textK b)).toArray).size) := by show _ = _; rw [Tryd.sizeA, List.size_toArray, cells_length, textK_length]
  have Hold : Hid (((cells zero32).toArray).size = ((cells (textK b)).toArray).size) := by show _ = _; rw [List.size_toArray, List.size_toArray, cells_length, cells_length, textK_length]; rfl
  go_wp2_with ((with_reducible refine at_store 37 ?_); refine wpList_store_row rfl 37 _ _ rfl w.heap.size _ rfl rfl 37 _ hr3 Hsz.out Hold.out (cells_oneCell _) ?_)
  refine bodyPost_ret (results_cell_row (fn := Tryd.f19) rfl _ _ w.heap.size 37 _ (0, 0) _ rfl (hr3.put (cells (textK b))) Tryd.underlying37 rfl Hsz.out) rfl ⟨rfl, ?_⟩
  exact below_setRow hB3 (Nat.le_refl _) _
end Go.Proofs.YtmcbpifkclhfiaaDoor
