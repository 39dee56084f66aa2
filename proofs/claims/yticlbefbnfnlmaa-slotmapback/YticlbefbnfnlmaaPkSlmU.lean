/-
  Layer 8: the contract of the reference's Sealed.
  Layer 10: the contract of the reference's Put.
-/
import Derived.Test.YticlbefbnfnlmaaPkSecGN
import Derived.Test.YticlbefbnfnlmaaPkROf
import Derived.Test.YticlbefbnfnlmaaPkRPut
import Derived.Test.YticlbefbnfnlmaaPkSlmR
import Derived.Test.YticlbefbnfnlmaaPkSlmP
namespace Go.Proofs.Yticlbefbnfnlmaa
open Go.RowKit
set_option linter.unusedVariables false
set_option linter.unusedSimpArgs false

/-- The length of a slice's value. -/
def lenQ : Value → Nat | .slice _ n _ => n | _ => 0
theorem fill_stepQ {l : List UInt8} {j : Nat} (h : l.length ≤ j) : fill l j ++ [0] = fill l (j + 1) := by
  unfold fill
  rw [show j + 1 - l.length = (j - l.length) + 1 by omega, List.replicate_succ', List.append_assoc]
theorem fill_nilQ : fill [] 256 = List.replicate 256 0 := rfl
theorem fill_takeQ {l : List UInt8} (hl : l.length = 256) {k : Nat} {x : UInt8} (hx : l[k]? = some x) :
    (cells (fill (l.take k) 256)).set k (.int .u8 (x.toNat : Int)) = cells (fill (l.take (k + 1)) 256) := by
  have hk : k < 256 := by rw [List.getElem?_eq_some_iff] at hx; obtain ⟨h, _⟩ := hx; omega
  unfold cells
  rw [← List.map_set (f := fun b : UInt8 => Value.int .u8 (b.toNat : Int)) (a := x)]
  congr 1
  unfold fill
  rw [List.length_take, List.length_take, Nat.min_eq_left (by omega), Nat.min_eq_left (by omega), List.take_add_one, hx, show 256 - k = (256 - (k + 1)) + 1 by omega, List.replicate_succ,
    List.set_append_right _ _ (by rw [List.length_take]; omega)]
  rw [List.length_take, Nat.min_eq_left (by omega), Nat.sub_self]
  simp
theorem fill_all {l : List UInt8} (hl : l.length = 256) : fill (l.take 256) 256 = l := by
  unfold fill
  rw [List.take_of_length_le (by omega), hl]
  simp

set_option maxRecDepth 100000 in
set_option maxHeartbeats 2000000 in
theorem rsealed_any (A : Option Addr) (n c : Nat) (xs : List UInt8) (w : World) (B : Nat) (h : Lies w B A xs) (hn : n = xs.length) (hB : B ≤ w.heap.size) (hx : xs.length ≤ 252) :
    Calls Try.prog 31 #[.slice A n c] w fun e w' => e = .returned (.agg (sealS xs hx).cs.toArray) ∧ Below w.heap.size w w' := by
  obtain ⟨i0, hi, hz0, hz1, hz2⟩ := info_parts Try.info5
  have Hn := Lib.hid hn
  have Hh := Lib.hid h
  have hn2 : n ≤ 252 := by omega
  have Hl : Hid ((fill xs 252).length = 252) := fill_length hx
  have HS : Hid ((sealS xs hx).1 = sealB (fill xs 252)) := rfl
  clear hn h
  go_enter Try.func31, Try.ntmps31
  go_wp2_with ((with_reducible refine at_alloc 42 ?_); refine alloc_sec rfl rfl ?_)
  intro w1 hr1 hb1 hs1
  have hl1 := Hh.out.below (hb1.mono hB)
  have hz1' : w.heap.size < w1.heap.size := by omega
  have hBz : B ≤ w1.heap.size := by omega
  clear hs1
  generalize hN : w.heap.size = N at *
  generalize hSS : sealS xs hx = S at *
  have hown0 : w1.ownsRow w1.heap.size 5 1 (.slice none 0 0) 0 (cells []) := ⟨rfl, .inl ⟨rfl, rfl⟩⟩
  go_wp2_with (at_builtin; refine wpList_append_lies rfl _ _ 41 rfl w1.heap.size i0 Try.underlying41 hi hz0 hz1 hz2 _ 0 [] xs rfl hown0 B _ _ _ rfl hl1 Hn.out (by omega) (Nat.le_refl _) ?_)
  intro v2 w2 hown2 hg2
  have hb2 : Below w1.heap.size w1 w2 := (Below.refl _ _).grown hg2 (Nat.le_refl _) (own_ge hown0)
  obtain ⟨A2, c2, rfl, hm2, _, _, _⟩ := Lies.of_own hown2
  rw [← Hn.out] at hown2 ⊢
  have hown2' : w2.ownsRow w1.heap.size 5 1 (.slice A2 n c2) n (cells (fill xs n)) := by rw [fill, ← Hn.out, Nat.sub_self]; simpa using hown2
  clear hown2 hown0 hm2 hg2 hl1
  generalize hbs : w1.heap.size = b at *
  go_wp2_with fail
  go_loopw [3] (fun v wr => ∃ j A c, n ≤ j ∧ j ≤ 252 ∧ v = .slice A j c ∧ wr.ownsRow b 5 1 (.slice A j c) j (cells (fill xs j)) ∧ Below b w1 wr) (fun v _ => 252 - lenQ v)
  case atStart => exact ⟨n, A2, c2, Nat.le_refl _, hn2, rfl, hown2', hb2⟩
  case round =>
    obtain ⟨j, A, c, hj1, hj2, rfl, hown', hb'⟩ := hrel
    clear hown2' hb2
    by_cases hlt : j < 252
    · have ho' := hown'.alloc (.cells #[Value.int .u8 0] 5)
      have hl' := Lies.lit wr #[Value.int .u8 0] [0] rfl (wr.heap.size + 1) (by omega)
      have hsb : b ≤ wr.heap.size := by have := hb'.size; omega
      have hb'' := hb'.alloc hsb (.cells #[Value.int .u8 0] 5)
      have hs'' : b ≤ (wr.alloc (.cells #[Value.int .u8 0] 5)).heap.size := by have := hb''.size; omega
      go_wp2_with (at_builtin; refine wpList_append_lies rfl _ _ 41 rfl b i0 Try.underlying41 hi hz0 hz1 hz2 _ j (fill xs j) [0] rfl ho' (wr.heap.size + 1) _ _ _ rfl hl' rfl (by omega) hs'' ?_)
      intro v2 w2 hown2 hg2
      rw [fill_stepQ (by have := Hn.out; omega)] at hown2
      obtain ⟨A2, c2, rfl, hn2, _, _, _⟩ := Lies.of_own hown2
      have hb2 := hb''.grown hg2 hs'' (own_ge ho')
      rw [← hn2] at hown2 ⊢
      clear hn2 ho' hl'
      go_wp2_with fail
      go_roundw
      case rel => exact ⟨j + 1, A2, c2, by omega, by omega, rfl, hown2, hb2⟩
      case measure => simp [lenQ]; omega
    · obtain rfl : j = 252 := by omega
      obtain ⟨A', c', hv, hk1, hk2, hk3, hl3⟩ := Lies.of_own hown'
      simp only [Value.slice.injEq] at hv
      obtain ⟨rfl, hzz, rfl⟩ := hv
      clear hzz
      have hsb : b ≤ wr.heap.size := by have := hb'.size; omega
      have Hk1 := Lib.hid hk1
      clear hk1
      go_wp2_with fail
      refine (rof_any _ 252 _ (fill xs 252) wr _ hl3 (Nat.le_refl _) Hk1.out (by omega)).mono ?_
      rintro e w3 ⟨rfl, hb3⟩
      have hown3 := own_below hown' hb3
      have hB3 : Below b w1 w3 := hb'.trans (hb3.mono (by omega))
      have hsb3 : b ≤ w3.heap.size := by have := hb3.size; omega
      have hnv := nv_bd (crcOf (fill xs 252))
      have Hnv : Hid (nv (crcOf (fill xs 252)) = ((crcOf (fill xs 252)).toNat : Int)) := rfl
      have hft : (crcOf (fill xs 252)).toNat < 18446744073709551616 := by have := (crcOf (fill xs 252)).isLt; omega
      clear hown' hb' hb3 hl3
      generalize hcr : crcOf (fill xs 252) = cr at *
      go_wp2_with fail
      refine (rput_any 4 cr.toNat _ 4 w3 Hnv.out rfl (by omega) (by omega) hft).mono ?_
      rintro e w4 ⟨A4, c4, rfl, hc4, hm4, hl4, hb4, _⟩
      have hown4 := own_below hown3 hb4
      have hB4 : Below b w1 w4 := hB3.trans (hb4.mono (by omega))
      have hsb4 : b ≤ w4.heap.size := by have := hb4.size; omega
      have hpl : 252 + (putB cr.toNat 4).length ≤ 140737488355328 := by rw [putB_length]; omega
      clear hown3 hB3 hb4
      go_wp2_with (at_builtin; refine wpList_append_lies rfl _ _ 41 rfl b i0 Try.underlying41 hi hz0 hz1 hz2 _ 252 (fill xs 252) (putB cr.toNat 4) rfl hown4 w4.heap.size _ _ _ rfl hl4 rfl hpl hsb4 ?_)
      intro v5 w5 hown5 hg5
      have hB5 : Below b w1 w5 := hB4.grown hg5 hsb4 (own_ge hown4)
      have hsb5 : b ≤ w5.heap.size := by have := hg5.size; omega
      rw [show 252 + (putB cr.toNat 4).length = 256 by rw [putB_length]] at hown5
      rw [show fill xs 252 ++ putB cr.toNat 4 = S.1 by rw [HS.out, sealB, four, hcr]] at hown5
      clear hown4 hB4 hg5 hl4 hpl hcr HS Hl Hk1
      obtain ⟨A5, c5, rfl, hk51, hk52, hk53, hl5⟩ := Lies.of_own hown5
      have HSl := Lib.hid S.2
      rw [show S.1.length = 256 from S.2]
      go_wp2_with ((with_reducible refine at_alloc 42 ?_); refine alloc_sec rfl rfl ?_)
      intro w6 hr6 hb6 hs6
      have hl6 := hl5.below hb6
      have hB6 : Below b w1 w6 := hB5.trans (hb6.mono (by omega))
      clear hown5 hl5 hB5 hk51 hb6
      generalize hG : w5.heap.size = G at *
      clear hG
      have K1 := Lib.hid (show RowV w6 G 42 (cells (fill (S.1.take 0) 256)) from hr6)
      have K2 := Lib.hid hl6
      have KB := Lib.hid hB6
      clear hr6 hl6 hB6 hs6
      go_wp2_with fail
      go_loopw [5] (fun v W => ∃ k : Nat, k ≤ 256 ∧ v = .int .i64 k ∧ Hid (RowV W G 42 (cells (fill (S.1.take k) 256))) ∧ Hid (Lies W G A5 S.1) ∧ Hid (Below b w1 W)) (fun v _ => 256 - (intOf v).toNat)
      case atStart => exact ⟨0, Nat.zero_le _, rfl, K1, K2, KB⟩
      case round =>
        obtain ⟨k, hkn, rfl, M1, M2, MB⟩ := hrel
        clear K1 K2 KB
        by_cases hlt : k < 256
        · have hlt' : (k : Int) < 256 := by omega
          have hk0 : (0 : Int) ≤ (k : Int) := by omega
          have f := M1.out.frozen k
          obtain ⟨u, g⟩ : ∃ u, wr.cell? ⟨G, k, none⟩ = some u := ⟨_, M1.out.cell (i := k) (List.getElem?_eq_getElem (by rw [cells_length, fill_length (by rw [List.length_take]; omega)]; omega))⟩
          obtain ⟨b5, o5, y, hA5, hb5, hy, hcy⟩ := M2.out.at_ (i := k) (by rw [HSl.out]; exact hlt)
          subst hA5
          have Hy := Lib.hid hy
          clear hy
          go_wp2_with fail
          go_roundw
          case rel =>
            refine ⟨k + 1, by omega, by go_num, Lib.hid ?_, Lib.hid (M2.out.setCell (Nat.le_refl _) _), Lib.hid (MB.out.setCell (by show b ≤ G; omega) _)⟩
            rw [← fill_takeQ HSl.out Hy.out]
            exact M1.out.setCell k _
          case measure => simp [intOf]; omega
        · obtain rfl : k = 256 := by omega
          have hrS : RowV wr G 42 S.cs := by have := M1.out; rw [fill_all HSl.out] at this; exact this
          have hrN := hr1.below (by omega) MB.out
          have hzr := hrN.lt
          have hMB := MB.out
          go_wp2_with (first
            | ((with_reducible refine at_load 42 ?_); refine load_sec rfl _ rfl G rfl hrS ?_)
            | ((with_reducible refine at_store 42 ?_); refine store_sec rfl _ _ rfl N S rfl rfl hrN (Sec.cs_length _) ?_))
          intro w7 hr7 hg7 hs7
          go_wp2_with fail
          exact bodyPost_ret (results_cell_row (fn := Try.f31) rfl _ _ N 42 _ (0, 0) _ rfl hr7 Try.underlying42 rfl (sec_size' _)) rfl ⟨by rw [hSS], by rw [hN]; exact below_grown (hb1.trans (hMB.mono (by omega))) hg7 (Nat.le_refl _) (by omega)⟩
end Go.Proofs.Yticlbefbnfnlmaa
namespace Go.Proofs.Yticlbefbnfnlmaa
open Go.RowKit
set_option linter.unusedVariables false
set_option linter.unusedSimpArgs false

theorem put10_eq {ss : List UInt8} (hl : ss.length ≤ 200) (h : (packS ss ((ss.length + 3) / 4)).length ≤ 252) : sealS (packS ss ((ss.length + 3) / 4)) h = putS10 ss := by
  apply Subtype.ext
  show sealB (fill (packS ss ((ss.length + 3) / 4)) 252) = sealB (packS ss 252)
  congr 1
  unfold fill
  rw [packS_length, packS_pad (by omega) (by omega)]

set_option maxRecDepth 100000 in
set_option maxHeartbeats 4000000 in
theorem rput10_any (w : World) (v : Value) (ss : List UInt8) (h : NumsAt w v ss) (hp : 1 ≤ ss.length) (hle : ss.length ≤ 200) (hok : Ok10 ss) :
    Calls Try.prog 17 #[v] w fun e w' => e = .returned (.agg (putS10 ss).cs.toArray) ∧ Below w.heap.size w w' := by
  obtain ⟨g, c, rfl, hc, hg⟩ := h.form hp
  have Hh := Lib.hid h
  clear h
  go_enter Try.func17, Try.ntmps17
  go_wp2_with ((with_reducible refine at_alloc 42 ?_); refine alloc_sec rfl rfl ?_)
  intro w1 hr1 hb1 hs1
  generalize hN : w.heap.size = N at *
  have HN1 := Lib.hid (show NumsAt w1 _ ss from World.ownsRow.kept Hh.out (grown_of_below (hN.symm ▸ hb1) none) (.inr (by simp [Value.ownBlock])))
  have HR := Lib.hid hr1
  have HB := Lib.hid hb1
  have HO : Hid (w1.ownsRow (N + 1) 5 1 (.slice none 0 0) ((0 + 3) / 4) (cells (packS (ss.take 0) ((0 + 3) / 4)))) := World.ownsRow_nil _ _ _ _
  have HZ : Hid (N + 1 ≤ w1.heap.size) := by show _ ≤ _; omega
  clear hr1 hb1 hs1 Hh
  go_wp2_with fail
  go_loopw [3, 4] (fun v3 v4 W => ∃ k : Nat, k ≤ ss.length ∧ v4 = .int .i64 k ∧ Hid (W.ownsRow (N + 1) 5 1 v3 ((k + 3) / 4) (cells (packS (ss.take k) ((k + 3) / 4)))) ∧ Hid (NumsAt W (.slice (some ⟨g, 0, none⟩) ss.length c) ss) ∧ Hid (RowV W N 42 zeroSec.cs) ∧ Hid (Below N w W) ∧ Hid (N + 1 ≤ W.heap.size)) (fun _ v _ => ss.length - (intOf v).toNat)
  case atStart => exact ⟨0, Nat.zero_le _, rfl, HO, HN1, HR, HB, HZ⟩
  case round =>
    obtain ⟨k, hk, rfl, HO1, HN2, HR2, HB2, HZ2⟩ := hrel
    clear HO HN1 HR HB HZ
    by_cases hlt : k < ss.length
    · have hlt' : (k : Int) < (ss.length : Int) := by omega
      have hx2 := hok.at_ k
      have Hstep := Lib.hid (byteN_step ss k)
      have Hhi := Lib.hid (byteN_le (hok.take (k + 1)) (k / 4))
      have Hset : Hid (∀ u : UInt8, u.toNat = byteN (ss.take (k + 1)) (k / 4) → (packS (ss.take k) (k / 4 + 1)).set (k / 4) u = packS (ss.take (k + 1)) (k / 4 + 1)) := fun u hu => packS_set k _ u hu
      have hr4 : k % 4 < 4 := Nat.mod_lt _ (by omega)
      have Happ := Lib.hid (fun h : k % 4 = 0 => packS_app (ss := ss) k h)
      have Hlow := Lib.hid (byteN_low hok k)
      have Hc0 := Lib.hid (fun (W : World) (h : NumsAt W (.slice (some ⟨g, 0, none⟩) ss.length c) ss) => h.cell hlt)
      have Hpk := Lib.hid (fun (W : World) (G cG : Nat) (h : W.ownsRow (N + 1) 5 1 (.slice (some ⟨G, 0, none⟩) (k / 4 + 1) cG) (k / 4 + 1) (cells (packS (ss.take k) (k / 4 + 1)))) => show W.cell? ⟨G, k / 4, none⟩ = some (.int .u8 (byteN (ss.take k) (k / 4) : Int)) by
        have h1 := h.cells (g := G) rfl (k / 4) (.int .u8 ((UInt8.ofNat (byteN (ss.take k) (k / 4))).toNat : Int)) (cells_get (packS_get _ (by omega)))
        rw [toNat_byteN (hok.take k)] at h1
        rwa [Addr.add_lit, Nat.zero_add] at h1)
      obtain ⟨r, hr⟩ : ∃ r, k % 4 = r := ⟨_, rfl⟩
      obtain ⟨j4, hj4⟩ : ∃ j4, k / 4 = j4 := ⟨_, rfl⟩
      have hkr : k = 4 * j4 + r := by omega
      have d1 : (k : Int) / 4 = (j4 : Int) := by omega
      have d2 : (k : Int) % 4 = (r : Int) := by omega
      have hj50 : j4 < 50 := by omega
      rw [hr] at Hstep Hlow Happ hr4
      rw [hj4] at Hstep Hlow Happ Hhi Hset Hpk
      have Hkr := Lib.hid hkr
      generalize byteN (ss.take k) j4 = p at *
      generalize byteN (ss.take (k + 1)) j4 = q at *
      generalize (ss.getD k 0).toNat = x at *
      by_cases h0 : r = 0
      · have H0 := Lib.hid h0
        have d4 : ((r : Int) == 0) = true := by rw [h0]; rfl
        have hm1 : Hid ((k + 3) / 4 = j4) := by show _ = _; omega
        have ho0 := HO1.out
        rw [hm1.out] at ho0
        have hz := HZ2.out
        have ho1 := ho0.alloc (.cells #[.int .u8 0] 5)
        have rl : RowV (wr.alloc (.cells #[.int .u8 0] 5)) wr.heap.size 5 [.int .u8 0] := RowV.new wr 5 _
        have hza : N + 1 ≤ (wr.alloc (.cells #[.int .u8 0] 5)).heap.size := by simp; omega
        have d3 : ((k : Int) % 4 == 0) = true := by rw [d2]; exact d4
        clear hr hj4 hkr ho0 hm1 h0
        go_wp2_with (at_builtin; refine wpList_append_one rfl _ _ 41 rfl (N + 1) 5 Try.underlying41 Try.info5 rfl (by decide) _ _ _ rfl ho1 wr.heap.size [.int .u8 0] rfl rl rfl (by simp [Value.oneCell']) (by unfold maxLen; omega) (by omega) hza ?_)
        intro v' w2 ho2 hg2 _
        have hn1 : NumsAt (wr.alloc (.cells #[.int .u8 0] 5)) (.slice (some ⟨g, 0, none⟩) ss.length c) ss := World.ownsRow.alloc HN2.out _
        have hap : (Value.slice (some ⟨g, 0, none⟩) ss.length c).ownBlock = none ∨ (Value.slice (some ⟨g, 0, none⟩) ss.length c).ownBlock ≠ u3.ownBlock := .inr (fun e => own_apart hn1 (own_rebase (base' := 0) ho1 (fun _ _ => Nat.zero_le _)) (by decide) rfl e.symm)
        have HN3 := Lib.hid (show NumsAt w2 _ ss from World.ownsRow.kept hn1 hg2 hap)
        have e4 : cells (packS (ss.take k) j4) ++ [Value.int .u8 0] = cells (packS (ss.take k) (j4 + 1)) := by rw [← Happ.out H0.out, cells_append]; rfl
        rw [e4] at ho2
        obtain ⟨G, cG, rfl, _, _, hGN, _⟩ := own_form ho2 (by omega)
        have HO3 := Lib.hid ho2
        have hge : ∀ k, u3.ownBlock = some k → N + 1 ≤ k := own_ge ho1
        have HR3 := Lib.hid ((HR2.out.alloc (.cells #[.int .u8 0] 5)).keep hg2 (fun e => by have := hge _ e; omega))
        have HB3 := Lib.hid ((HB2.out.alloc (by omega) (.cells #[.int .u8 0] 5)).grown hg2 (by omega) (fun k e => by have := hge k e; omega))
        have HZ3 : Hid (N + 1 ≤ w2.heap.size) := by have := hg2.size; show _ ≤ _; omega
        have hcx := Hc0.out w2 HN3.out
        clear hn1 hap ho1 ho2 rl hza hg2 hge hz d3 e4 HO1 HN2 HR2 HB2 HZ2
        go_wp2_with fail
        try rw [d2]
        try rw [d4]
        go_loop [5, 6] (fun v5 v6 => ∃ i y : Nat, i ≤ r ∧ v6 = .int .i64 i ∧ v5 = .int .u8 (y : Int) ∧ Hid (y = x * 4 ^ i)) (fun _ v => r - (intOf v).toNat)
        case atStart => exact ⟨0, x, Nat.zero_le _, rfl, rfl, by show _ = _; rw [Nat.pow_zero, Nat.mul_one]⟩
        case round =>
          obtain ⟨i, y, hi, rfl, rfl, Hy⟩ := hrel
          by_cases hir : i < r
          · have hir' : (i : Int) < (r : Int) := by omega
            have hy : y ≤ 32 := by
              rw [Hy.out]
              rcases (show i = 0 ∨ i = 1 ∨ i = 2 by omega) with rfl | rfl | rfl <;> omega
            have Hy1 : Hid (y * 4 = x * 4 ^ (i + 1)) := by show _ = _; rw [Hy.out, Nat.pow_succ, Nat.mul_assoc]
            obtain ⟨z, hz⟩ : ∃ z, y * 4 = z := ⟨_, rfl⟩
            have e1 : (y : Int) * 4 = (z : Int) := by omega
            rw [hz] at Hy1
            clear hz Hy
            go_wp2_with fail
            go_round
            case rel => exact ⟨i + 1, z, by omega, by go_num, by first | rfl | rw [e1], Hy1⟩
            case measure => simp [intOf]; omega
          · obtain rfl : i = r := by omega
            have hcp := Hpk.out _ G cG HO3.out
            have hfp := HO3.out.frozenAt j4
            have hpy : p + y = q := by rw [Hy.out, Hstep.out]
            have hq := Hhi.out
            have e2 : (p : Int) + (y : Int) = (q : Int) := by omega
            have hst := (HO3.out.stored j4 (.int .u8 (q : Int)))
            have hu : (UInt8.ofNat q).toNat = q := by rw [UInt8.toNat_ofNat']; omega
            have hset := Hset.out (UInt8.ofNat q) hu
            have hcs : (cells (packS (ss.take k) (j4 + 1))).set j4 (.int .u8 (q : Int)) = cells (packS (ss.take (k + 1)) (j4 + 1)) := by
              rw [← hset, ← congrArg (fun n : Nat => (n : Int)) hu]
              simp [cells, List.map_set]
            rw [hcs] at hst
            have HST := Lib.hid hst
            clear hst hcs hset hu hpy
            go_wp2_with fail
            have e5 : (k + 1 + 3) / 4 = j4 + 1 := by have := Hkr.out; omega
            have hg5 := HST.out.2
            have ho5 := HST.out.1
            have hn5 : NumsAt _ (.slice (some ⟨g, 0, none⟩) ss.length c) ss := World.ownsRow.kept HN3.out hg5 (.inr (fun e => own_apart (own_rebase (base' := 0) HO3.out (fun _ _ => Nat.zero_le _)) HN3.out (by decide) rfl e))
            have hr5 := HR3.out.keep hg5 (fun e => by injection e with e; omega)
            have hb5 := HB3.out.grown hg5 (by have := HZ3.out; omega) (fun k e => by injection e with e; omega)
            have hz5 := hg5.size
            go_roundw
            case rel => exact ⟨k + 1, by omega, by go_num, by rw [e5]; exact ho5, hn5, hr5, hb5, Nat.le_trans HZ3.out hz5⟩
            case measure => simp [intOf]; omega
      · have h0' : ¬ (k : Int) % 4 = 0 := by omega
        have d4 : ((r : Int) == 0) = false := by simp [h0]
        have d3 : ((k : Int) % 4 == 0) = false := by simp [h0']
        have hm1 : Hid ((k + 3) / 4 = j4 + 1) := by show _ = _; omega
        have ho0 := HO1.out
        rw [hm1.out] at ho0
        obtain ⟨G, cG, rfl, _, _, hGN, _⟩ := own_form ho0 (by omega)
        have HO3 := Lib.hid ho0
        have HN3 := HN2
        have HR3 := HR2
        have HB3 := HB2
        have HZ3 := HZ2
        have hcx := Hc0.out wr HN3.out
        clear hr hj4 hkr ho0 hm1 HO1 HN2 HR2 HB2 HZ2 h0'
        go_wp2_with fail
        try rw [d2]
        try rw [d4]
        go_loop [5, 6] (fun v5 v6 => ∃ i y : Nat, i ≤ r ∧ v6 = .int .i64 i ∧ v5 = .int .u8 (y : Int) ∧ Hid (y = x * 4 ^ i)) (fun _ v => r - (intOf v).toNat)
        case atStart => exact ⟨0, x, Nat.zero_le _, rfl, rfl, by show _ = _; rw [Nat.pow_zero, Nat.mul_one]⟩
        case round =>
          obtain ⟨i, y, hi, rfl, rfl, Hy⟩ := hrel
          by_cases hir : i < r
          · have hir' : (i : Int) < (r : Int) := by omega
            have hy : y ≤ 32 := by
              rw [Hy.out]
              rcases (show i = 0 ∨ i = 1 ∨ i = 2 by omega) with rfl | rfl | rfl <;> omega
            have Hy1 : Hid (y * 4 = x * 4 ^ (i + 1)) := by show _ = _; rw [Hy.out, Nat.pow_succ, Nat.mul_assoc]
            obtain ⟨z, hz⟩ : ∃ z, y * 4 = z := ⟨_, rfl⟩
            have e1 : (y : Int) * 4 = (z : Int) := by omega
            rw [hz] at Hy1
            clear hz Hy
            go_wp2_with fail
            go_round
            case rel => exact ⟨i + 1, z, by omega, by go_num, by first | rfl | rw [e1], Hy1⟩
            case measure => simp [intOf]; omega
          · obtain rfl : i = r := by omega
            have hcp := Hpk.out _ G cG HO3.out
            have hfp := HO3.out.frozenAt j4
            have hpy : p + y = q := by rw [Hy.out, Hstep.out]
            have hq := Hhi.out
            have e2 : (p : Int) + (y : Int) = (q : Int) := by omega
            have hst := (HO3.out.stored j4 (.int .u8 (q : Int)))
            have hu : (UInt8.ofNat q).toNat = q := by rw [UInt8.toNat_ofNat']; omega
            have hset := Hset.out (UInt8.ofNat q) hu
            have hcs : (cells (packS (ss.take k) (j4 + 1))).set j4 (.int .u8 (q : Int)) = cells (packS (ss.take (k + 1)) (j4 + 1)) := by
              rw [← hset, ← congrArg (fun n : Nat => (n : Int)) hu]
              simp [cells, List.map_set]
            rw [hcs] at hst
            have HST := Lib.hid hst
            clear hst hcs hset hu hpy
            go_wp2_with fail
            have e5 : (k + 1 + 3) / 4 = j4 + 1 := by have := Hkr.out; omega
            have hg5 := HST.out.2
            have ho5 := HST.out.1
            have hn5 : NumsAt _ (.slice (some ⟨g, 0, none⟩) ss.length c) ss := World.ownsRow.kept HN3.out hg5 (.inr (fun e => own_apart (own_rebase (base' := 0) HO3.out (fun _ _ => Nat.zero_le _)) HN3.out (by decide) rfl e))
            have hr5 := HR3.out.keep hg5 (fun e => by injection e with e; omega)
            have hb5 := HB3.out.grown hg5 (by have := HZ3.out; omega) (fun k e => by injection e with e; omega)
            have hz5 := hg5.size
            go_roundw
            case rel => exact ⟨k + 1, by omega, by go_num, by rw [e5]; exact ho5, hn5, hr5, hb5, Nat.le_trans HZ3.out hz5⟩
            case measure => simp [intOf]; omega
    · obtain rfl : k = ss.length := by omega
      have ho := HO1.out
      rw [List.take_length] at ho
      clear HO1
      have hlen : Hid ((packS ss ((ss.length + 3) / 4)).length = (ss.length + 3) / 4) := packS_length _ _
      have hl252 : (packS ss ((ss.length + 3) / 4)).length ≤ 252 := by rw [hlen.out]; omega
      have He := Lib.hid (put10_eq hle hl252)
      obtain ⟨A, cA, hv, hq1, hq2, hq3, hl⟩ := Lies.of_own ho
      clear hq1 hq2 hq3
      rw [hlen.out] at hv
      have Hlen : Hid ((ss.length + 3) / 4 = (packS ss ((ss.length + 3) / 4)).length) := hlen.out.symm
      clear ho
      generalize (packS ss ((ss.length + 3) / 4)) = bs at *
      generalize (ss.length + 3) / 4 = L at *
      subst hv
      have hZ := HZ2.out
      have HC := Lib.hid (rsealed_any A L cA bs wr _ hl Hlen.out (Nat.le_refl _) hl252)
      clear Hlen hlen
      go_wp2_with fail
      refine HC.out.mono ?_
      rintro e w5 ⟨rfl, hb5⟩
      rw [He.out]
      have hr5 := HR2.out.below (by omega) hb5
      have hB5 := HB2.out.trans (hb5.mono (by omega))
      have hs5 := hb5.size
      clear HN2 HR2 HB2 HZ2 hl
      go_wp2_with ((with_reducible refine at_store 42 ?_); refine store_sec rfl _ _ rfl N (putS10 ss) rfl rfl hr5 (Sec.cs_length _) ?_)
      intro w7 hr7 hg7 hs7
      go_wp2_with fail
      exact bodyPost_ret (results_cell_row (fn := Try.f17) rfl _ _ N 42 _ (0, 0) _ rfl hr7 Try.underlying42 rfl (sec_size' _)) rfl ⟨rfl, by first | exact below_grown hB5 hg7 (Nat.le_refl _) (by omega) | (rw [hN]; exact below_grown hB5 hg7 (Nat.le_refl _) (by omega))⟩
end Go.Proofs.Yticlbefbnfnlmaa
