/-
  Layer 12: the contract of the law ShelfBack.
-/
import Derived.Test.YtiglffkbaddefaaPkShlJ
import Derived.Test.YtiglffkbaddefaaPkShlK
namespace Go.Proofs.Ytiglffkbaddefaa
open Go.RowKit
set_option linter.unusedVariables false
set_option linter.unusedSimpArgs false

theorem Like.good {n : Nat} {hn : 0 < n} {l r : List Ent} (h : Like n hn l r) : Good n hn l := ⟨h.tb, fun x hx hc => h.ok x ((h.mem x hc).1 hx)⟩
theorem Like.tok {n : Nat} {hn : 0 < n} {l r : List Ent} (h : Like n hn l r) (h406 : n ≤ 406) : TabOK l := by
  have hl := h.tb.len
  subst hl
  exact ⟨hn, h406, h.tb, h.good.oks⟩

set_option maxRecDepth 100000 in
set_option maxHeartbeats 16000000 in
theorem back12_any (HW : Works12) (w : World) (B m c : Nat) (A : Option Addr) (l : List Ent) (s8 : UInt8) (fi : Int) (h : LiesV w B A (ents l)) (hm : m = l.length) (hB : B ≤ w.heap.size) (hc : m ≤ c) :
    Calls Try.prog 3 #[.slice A m c, .int .u8 (s8.toNat : Int), .int .i64 fi] w fun e w' => e = .returned (.bool true) ∧ Below w.heap.size w w' := by
  have HL := Lib.hid h
  have Hm := Lib.hid hm
  have HW := Lib.hid HW
  clear h hm
  obtain ⟨N, hN⟩ : ∃ N, w.heap.size = N := ⟨_, rfl⟩
  rw [hN] at hB
  by_cases hbig : m ≤ 40 ∧ 0 ≤ fi ∧ fi ≤ 1099511627776
  · obtain ⟨hm40, hf0, hf1⟩ := hbig
    obtain ⟨f, rfl⟩ : ∃ f : Nat, fi = f := ⟨fi.toNat, by omega⟩
    obtain ⟨d, hd⟩ : ∃ d, s8.toNat % 6 = d := ⟨_, rfl⟩
    have hd6 : d < 6 := by omega
    have h8 := s8.toNat_lt
    have hdi : (s8.toNat : Int) % 6 = (d : Int) := by omega
    have hdt : (s8.toNat : Int).tmod 6 = (d : Int) := by rw [Int.tmod_eq_emod_of_nonneg (by omega)]; exact hdi
    obtain ⟨M, hM⟩ : ∃ M, 1 + d = M := ⟨_, rfl⟩
    obtain ⟨n, hn⟩ : ∃ n, M * 6 = n := ⟨_, rfl⟩
    have hni : (6 : Int) * (1 + (d : Int)) = (n : Int) := by omega
    have hn0 : 0 < n := by omega
    have hn36 : n ≤ 36 := by omega
    have hM0 : 0 < M := by omega
    have hM6 : M ≤ 6 := by omega
    have HM := Lib.hid hn
    have hf2 : f ≤ 2000000000000 := by omega
    have hfl : decide ((f : Int) < 0) = false := decide_eq_false (by omega)
    have hfg : decide ((1099511627776 : Int) < (f : Int)) = false := decide_eq_false (by omega)
    have hml : decide ((40 : Int) < (m : Int)) = false := decide_eq_false (by omega)
    clear hd hM hn
    generalize s8.toNat = sn at *
    go_enter Try.func3, Try.ntmps3
    go_wp2_with fail
    refine (tnew_any w (n : Int)).mono ?_
    intro e w2 hnew
    unfold New11V at hnew
    rw [if_pos (by omega), Int.toNat_natCast, hN] at hnew
    obtain ⟨b, g, rfl, hT2, hb, hg, hB2⟩ := hnew
    have HT2 := Lib.hid hT2
    have HB2 := Lib.hid hB2
    have HR2 : Hid (RowE w2 (.slice none 0 0) []) := RowE.nil w2
    have HK2 : Hid (Like n hn0 (List.replicate n zeroEnt) []) := Like.new n hn0
    have HE2 : Hid ((Value.slice none 0 0).ownBlock ≠ some g) := by show _ ≠ _; simp [Value.ownBlock]
    have hz2 : Hid (N ≤ w2.heap.size) := by show _ ≤ _; have := hB2.size; omega
    clear hT2 hB2
    go_wp2_with fail
    go_loopw [10, 11] (fun v9 v W => ∃ (k : Nat) (l' r : List Ent), k ≤ m ∧ v = .int .i64 k ∧ Hid (TabAt W b g n n l') ∧ Hid (RowE W v9 r) ∧ Hid (Like n hn0 l' r) ∧ Hid (v9.ownBlock ≠ some g) ∧ Hid (Below N w W) ∧ Hid (N ≤ W.heap.size)) (fun _ v _ => m - (intOf v).toNat)
    case atStart => exact ⟨0, _, [], Nat.zero_le _, rfl, HT2, HR2, HK2, HE2, HB2, hz2⟩
    case round =>
      obtain ⟨k, l', r, hk, rfl, HT, HR, HK, HE, HB, HZ⟩ := hrel
      clear HT2 HR2 HK2 HE2 HB2 hz2
      have hz := HZ.out
      have hrl : r.length < n := HK.out.len
      by_cases hlt : k < m
      · have hlt' : (k : Int) < (m : Int) := by omega
        have hk0 : (0 : Int) ≤ (k : Int) := by omega
        obtain ⟨e, he⟩ : ∃ e, l[k]? = some e := ⟨_, List.getElem?_eq_getElem (by rw [← Hm.out]; exact hlt)⟩
        obtain ⟨ba, o, hA, hba, hra⟩ := lies_ent (HL.out.below (HB.out.mono hB)) he
        subst hA
        have Hra := Lib.hid hra
        have Hse := Lib.hid (ent_size e)
        have Hrl := Lib.hid hrl
        clear hra he hrl
        go_wp2_with ((with_reducible refine at_load 32 ?_); refine wpList_load_mid rfl 32 _ rfl ba (o + k * 34) rfl e.cs _ Hra.out Try.underlying32 rfl Hse.out ?_)
        refine (rput11_any wr _ r n e HR.out HK.out.dst (by have := Hrl.out; omega) (by omega)).mono ?_
        rintro x w3 ⟨c2, r2, v2, rfl, hR2, hown2, hp2, hb2⟩
        have HT3 : Hid (TabAt w3 b g n n l') := HT.out.later hb2
        have HR3 := Lib.hid hR2
        have HE3 : Hid (v2.ownBlock ≠ some g) := by
          rcases hown2 with rfl | h
          · exact HE.out
          · intro e; have := h g e; have := HT.out.glt; omega
        have HB3 : Hid (Below N w w3) := HB.out.trans (hb2.mono hz)
        have hz3 : N ≤ w3.heap.size := by have := hb2.size; omega
        have Hra3 := Lib.hid (range_belowE Hra.out hb2 (show ba < wr.heap.size by omega))
        have Hp2 := Lib.hid hp2
        clear hR2 hown2 hb2 HT HR HE HB HZ Hra hp2
        go_wp2_with ((with_reducible refine at_load 32 ?_); refine wpList_load_mid rfl 32 _ rfl ba (o + k * 34) rfl e.cs _ Hra3.out Try.underlying32 rfl Hse.out ?_)
        refine (tput_any w3 b g n n hn0 l' HT3.out HK.out.tb e).mono ?_
        rintro x w4 ⟨c4, l4, rfl, hT4, hp4, hB4⟩
        obtain ⟨rfl, hK4⟩ := HK.out.put hp4 Hp2.out
        have HT4 := Lib.hid hT4
        have HK4 := Lib.hid hK4
        have HR4 : Hid (RowE w4 v2 r2) := HR3.out.butG hB4 HE3.out
        have HB4 : Hid (Below N w w4) := HB3.out.trans ((hB4.less hz3).below (fun k hk => by rw [List.mem_singleton.1 hk]; exact hg))
        have hz4 : Hid (N ≤ w4.heap.size) := by show _ ≤ _; have := hB4.size; omega
        have hcc : (c4 != c4) = false := by simp
        clear hT4 hK4 hp4 hB4 HT3 HR3 HB3 HK Hra3 Hp2 Hrl
        go_wp2_with fail
        go_roundw
        case rel => exact ⟨k + 1, l4, r2, by omega, by go_num, HT4, HR4, HK4, HE3, HB4, hz4⟩
        case measure => simp [intOf]; omega
      · obtain rfl : k = m := by omega
        generalize wr = w5 at *
        obtain ⟨A10, c10, rfl, hc10, hl10⟩ := HR.out
        clear hl10
        go_wp2_with fail
        refine (rplaces_any w5 _ r n hn0 (by omega) HR.out HK.out.ok HK.out.dst hrl).mono ?_
        rintro e w6 ⟨v6, rfl, l6, hr6, hK6, hb6⟩
        obtain rfl := hK6.same HK.out
        obtain ⟨A6, c6, rfl, -, -⟩ := own_slice hr6
        have HP6 := Lib.hid hr6
        have HT6 : Hid (TabAt w6 b g n (M * 6) l6) := by show TabAt _ _ _ _ _ _; rw [HM.out]; exact HT.out.later hb6
        have HB6 : Hid (Below N w w6) := HB.out.trans (hb6.mono hz)
        have hz6 : N ≤ w6.heap.size := by have := hb6.size; omega
        have HG := Lib.hid HK.out.good
        have Hcnt := Lib.hid HK.out.cnt
        have Htok := Lib.hid (HK.out.tok (by omega))
        have Hlen6 : Hid (l6.length = M * 6) := by show _ = _; rw [HM.out]; exact HK.out.tb.len
        clear hr6 hK6 hb6 HT HR HK HE HB HZ hrl hz
        go_wp2_with fail
        refine (shput_yes w6 b g n M l6 HT6.out HG.out.fits).mono ?_
        rintro e w7 ⟨v7, rfl, ho7, hb7⟩
        obtain ⟨gs, cs, rfl, hcs, hcm7, hgs1, hgs2⟩ := own_form ho7 hM0
        have HO7 := Lib.hid ho7
        have HP7 := Lib.hid (own_below HP6.out hb7)
        have HT7 : Hid (TabAt w7 b g n (M * 6) l6) := HT6.out.later hb7
        have HB7 : Hid (Below N w w7) := HB6.out.trans (hb7.mono hz6)
        have hz7 : N ≤ w7.heap.size := by have := hb7.size; omega
        clear ho7 hb7 HP6 HT6 HB6
        go_wp2_with fail
        refine (shchanges_any w7 b g n M f l6 HT7.out HG.out.fits hf2).mono ?_
        rintro e w8 ⟨v8, rfl, ho8, hb8⟩
        obtain ⟨gc, cc, rfl, hcc, hcm8, hgc1, hgc2⟩ := own_form ho8 hM0
        have HC8 := Lib.hid ho8
        have HO8 := Lib.hid (own_below HO7.out hb8)
        have HP8 := Lib.hid (own_below HP7.out hb8)
        have HB8 : Hid (Below N w w8) := HB7.out.trans (hb8.mono hz7)
        have hz8 : N ≤ w8.heap.size := by have := hb8.size; omega
        clear ho8 hb8 HP7 HT7 HB7 HO7
        obtain ⟨_, _, hv, -, hcap6, -, l8⟩ := lies_ownE HP8.out
        injection hv with e1 e2 e3
        subst e1 e3
        clear e2
        have HL8 := Lib.hid l8
        clear l8
        go_wp2_with fail
        refine (rsectors_any w8 w8.heap.size n c6 M A6 l6 HL8.out (by rw [Hlen6.out, HM.out]) HM.out.symm (Nat.le_refl _) HG.out.fits (by omega) hcap6).mono ?_
        rintro e w9 ⟨v9, rfl, ho9, hb9⟩
        obtain ⟨A9, c9, rfl, hlen9, hcap9, hmax9, hl9⟩ := lies_ownS ho9
        have HO9 := Lib.hid (own_below HO8.out hb9)
        have HC9 := Lib.hid (own_below HC8.out hb9)
        have HP9 := Lib.hid (own_below HP8.out hb9)
        have HB9 : Hid (Below N w w9) := HB8.out.trans (hb9.mono hz8)
        have hz9 : N ≤ w9.heap.size := by have := hb9.size; omega
        have HQ9 := Lib.hid hl9
        have Hlen9 := Lib.hid hlen9
        clear ho9 hb9 HP8 HB8 HO8 HC8 HL8 hl9 hlen9
        obtain ⟨_, _, hv, -, hcapS, -, l9⟩ := lies_ownS HO9.out
        injection hv with e1 e2 e3
        subst e1 e3
        clear e2
        have HS9 := Lib.hid l9
        clear l9
        go_wp2_with fail
        refine (rsame12_any w9 w9.heap.size M cs M c9 (some ⟨gs, 0, none⟩) A9 (shelfL l6 M) (shelfL l6 M) HS9.out HQ9.out Hlen9.out Hlen9.out (Nat.le_refl _) (by omega) (by omega) hcapS hcap9).mono ?_
        rintro e w10 ⟨rfl, hb10⟩
        rw [decide_eq_true (rfl : shelfL l6 M = shelfL l6 M)]
        have HO10 := Lib.hid (own_below HO9.out hb10)
        have HC10 := Lib.hid (own_below HC9.out hb10)
        have HP10 := Lib.hid (own_below HP9.out hb10)
        have HB10 : Hid (Below N w w10) := HB9.out.trans (hb10.mono hz9)
        have hz10 : N ≤ w10.heap.size := by have := hb10.size; omega
        have HR0 : Hid (Below w10.heap.size w10 w10) := Below.refl _ _
        have hMM : ((M : Int) != (M : Int)) = false := by simp
        clear hb10 HP9 HB9 HO9 HC9 HS9 HQ9
        go_wp2_with fail
        go_loopw [19] (fun v W => ∃ k : Nat, k ≤ M ∧ v = .int .i64 k ∧ Hid (Below w10.heap.size w10 W)) (fun v _ => M - (intOf v).toNat)
        case atStart => exact ⟨0, Nat.zero_le _, rfl, HR0⟩
        case round =>
          obtain ⟨k, hk, rfl, HR⟩ := hrel
          clear HR0
          by_cases hlt : k < M
          · have hlt' : (k : Int) < (M : Int) := by omega
            have hk0 : (0 : Int) ≤ (k : Int) := by omega
            obtain ⟨s, hs⟩ : ∃ s, (shelfL l6 M)[k]? = some s := ⟨_, List.getElem?_eq_getElem (by rw [← Hlen9.out]; exact hlt)⟩
            have hoS := own_below HO10.out HR.out
            have hoC := own_below HC10.out HR.out
            have hch := chgsOf_get (f := f) hs
            have cAt : wr.drew.cell? ⟨gc, k * 257, none⟩ = some (.int .i64 ((f : Int) + (k : Int))) := by
              have := chg_at hoC hch
              rw [show (((f + k, s) : Chg).1 : Int) = (f : Int) + (k : Int) by simp] at this
              exact this
            have r1 : Hid (wr.drew.rangeAt gc (k * 257 + 1) s.cs) := chg_sec hoC hch
            have r2 : Hid (wr.drew.rangeAt gs (k * 256) s.cs) := sec_range hoS hs
            have S1 := Lib.hid (sec_size s)
            have Hss : Hid ((!(s.1 == s.1)) = false) := by show _ = _; simp
            have hfk : IntKind.i64.wrap ((f : Int) + (k : Int)) = (f : Int) + (k : Int) := IntWalk.i64_in _ (by omega)
            clear hs hoS hoC hch
            go_wp2_with fail
            refine wp_region_still_lit (by kernel_rfl) (by kernel_rfl) ?_
            iterate 4 still_step
            refine wpStill_exec (.int .i64 ((f : Int) + (k : Int))) rfl (by go_simp; try with_reducible rfl) ?_
            try simp only [Act.put, List.setIfInBounds_toArray, List.set_cons_zero, List.set_cons_succ]
            iterate 2 still_step
            refine wpStill_exec (.int .i64 ((f : Int) + (k : Int))) rfl (by go_simp; try with_reducible rfl) ?_
            try simp only [Act.put, List.setIfInBounds_toArray, List.set_cons_zero, List.set_cons_succ]
            refine wpStill_exec (.bool false) rfl (by go_simp; try simp) ?_
            try simp only [Act.put, List.setIfInBounds_toArray, List.set_cons_zero, List.set_cons_succ]
            iterate 1 still_step
            refine wpStill_exec (.slice (some ⟨gc, 0, none⟩) M cc) rfl (by go_simp; try with_reducible rfl) ?_
            try simp only [Act.put, List.setIfInBounds_toArray, List.set_cons_zero, List.set_cons_succ]
            refine wpStill_exec (.int .i64 (k : Int)) rfl (by go_simp; try with_reducible rfl) ?_
            try simp only [Act.put, List.setIfInBounds_toArray, List.set_cons_zero, List.set_cons_succ]
            refine wpStill_exec (.pointer (some ⟨gc, k * 257, none⟩)) rfl (by go_simp; try with_reducible rfl) ?_
            try simp only [Act.put, List.setIfInBounds_toArray, List.set_cons_zero, List.set_cons_succ]
            refine wpStill_exec (.pointer (some ⟨gc, k * 257 + 1, none⟩)) rfl (by go_simp; try with_reducible rfl) ?_
            try simp only [Act.put, List.setIfInBounds_toArray, List.set_cons_zero, List.set_cons_succ]
            refine wpStill_exec (.agg s.cs.toArray) rfl (by refine exec_load_mid 43 (.tmp 128) ?_ gc (k * 257 + 1) ?_ s.cs _ r1.out Try.underlying43 rfl S1.out <;> rfl) ?_
            try simp only [Act.put, List.setIfInBounds_toArray, List.set_cons_zero, List.set_cons_succ]
            refine wpStill_exec (.slice (some ⟨gs, 0, none⟩) M cs) rfl (by go_simp; try with_reducible rfl) ?_
            try simp only [Act.put, List.setIfInBounds_toArray, List.set_cons_zero, List.set_cons_succ]
            refine wpStill_exec (.int .i64 (k : Int)) rfl (by go_simp; try with_reducible rfl) ?_
            try simp only [Act.put, List.setIfInBounds_toArray, List.set_cons_zero, List.set_cons_succ]
            refine wpStill_exec (.pointer (some ⟨gs, k * 256, none⟩)) rfl (by go_simp; try with_reducible rfl) ?_
            try simp only [Act.put, List.setIfInBounds_toArray, List.set_cons_zero, List.set_cons_succ]
            refine wpStill_exec (.agg s.cs.toArray) rfl (by refine exec_load_mid 43 (.tmp 132) ?_ gs (k * 256) ?_ s.cs _ r2.out Try.underlying43 rfl S1.out <;> rfl) ?_
            try simp only [Act.put, List.setIfInBounds_toArray, List.set_cons_zero, List.set_cons_succ]
            refine wpStill_exec (.bool (!(s.1 == s.1))) rfl (by refine exec_neqB 43 (.tmp 129) (.tmp 133) 43 ?_ Try.underlying43 Try.underlying5 Try.cells5' Try.guardS (xs := s.1) (ys := s.1) ?_ ?_ s.2 s.2 <;> rfl) ?_
            try simp only [Act.put, List.setIfInBounds_toArray, List.set_cons_zero, List.set_cons_succ]
            rw [Hss.out]
            iterate 1 still_step
            refine wpStill_nil ?_
            change Exit.then _ _ _ _ wr.drew
            have HRd : Hid (Below w10.heap.size w10 wr.drew) := HR.out.drew
            clear cAt r1 r2 HR
            generalize wr.drew = wd at *
            go_wp2_with fail
            go_roundw
            case rel => exact ⟨k + 1, by omega, by go_num, HRd⟩
            case measure => simp [intOf]; omega
          · obtain rfl : k = M := by omega
            generalize wr = w11 at *
            have HO11 := Lib.hid (own_below HO10.out HR.out)
            have HP11 := Lib.hid (own_below HP10.out HR.out)
            have HB11 : Hid (Below N w w11) := HB10.out.trans (HR.out.mono hz10)
            have hz11 : N ≤ w11.heap.size := by have := HR.out.size; omega
            clear HR HO10 HC10 HP10 HB10
            obtain ⟨_, _, hv, -, -, -, l11⟩ := lies_ownS HO11.out
            injection hv with e1 e2 e3
            subst e1 e3
            clear e2
            have HS11 := Lib.hid l11
            clear l11
            go_wp2_with fail
            refine (shget_any w11 w11.heap.size k cs (some ⟨gs, 0, none⟩) (shelfL l6 k) HS11.out Hlen9.out (Nat.le_refl _) hcapS (by omega)).mono ?_
            rintro e w12 ⟨hget, hb12⟩
            obtain ⟨b3, g3, c3, rfl, hX, hb3, hg3⟩ : ∃ b g c, e = .returned (.tuple #[.pointer (some ⟨b, 0, none⟩), .int .i64 0]) ∧ TabAt w12 b g c ((shelfL l6 k).length * 6) (readS (shelfL l6 k)) ∧ w11.heap.size ≤ b ∧ w11.heap.size ≤ g := by
              rcases hget with ⟨_, _, _, h⟩ | ⟨_, _, h, _⟩ | ⟨h, _⟩
              · exact h
              · exact absurd (shelf_ok Hlen6.out Htok.out HG.out.fits) h
              · rw [shelfL_length] at h; omega
            rw [readS_shelf Hlen6.out HG.out.fits, shelfL_length, HM.out] at hX
            have HX := Lib.hid hX
            have HP12 := Lib.hid (own_below HP11.out hb12)
            have HB12 : Hid (Below N w w12) := HB11.out.trans (hb12.mono hz11)
            have hz12 : N ≤ w12.heap.size := by have := hb12.size; omega
            clear hget hb12 hX HP11 HB11 HO11 HS11 hb3 hg3
            go_wp2_with fail
            refine (tplaces_any w12 b3 g3 c3 n l6 HX.out).mono ?_
            rintro e w13 ⟨A13, c13, rfl, hr13, hb13⟩
            obtain ⟨_, _, hv, -, hcap13, -, l13⟩ := lies_ownE hr13
            injection hv with e1 e2 e3
            subst e1 e3
            clear e2
            obtain ⟨_, _, hv, -, -, -, l13'⟩ := lies_ownE (own_below HP12.out hb13)
            injection hv with e1 e2 e3
            subst e1 e3
            clear e2
            have HLa := Lib.hid l13
            have HLb := Lib.hid l13'
            have HX13 := Lib.hid (HX.out.later hb13)
            have HB13 : Hid (Below N w w13) := HB12.out.trans (hb13.mono hz12)
            have hz13 : N ≤ w13.heap.size := by have := hb13.size; omega
            have Hln : Hid (n = l6.length) := by show _ = _; rw [Hlen6.out, HM.out]
            clear hr13 hb13 l13 l13' HP12 HX HB12
            go_wp2_with fail
            refine (rsame11_any w13 w13.heap.size n c13 n c6 A13 A6 l6 l6 HLa.out HLb.out Hln.out Hln.out (Nat.le_refl _) (by omega) (by omega) hcap13 hcap6).mono ?_
            rintro e w14 ⟨rfl, hb14⟩
            rw [decide_eq_true (rfl : l6 = l6)]
            have HX14 := Lib.hid (HX13.out.later hb14)
            have HB14 : Hid (Below N w w14) := HB13.out.trans (hb14.mono hz13)
            have hz14 : N ≤ w14.heap.size := by have := hb14.size; omega
            clear hb14 HX13 HB13 HLa HLb
            go_wp2_with fail
            refine (tlen_any w14 b3 g3 c3 n l6 HX14.out).mono ?_
            rintro e wx ⟨rfl, hw⟩
            rw [hw, Hcnt.out]
            clear hw wx
            have hrr : ((r.length : Int) == (r.length : Int)) = true := by simp
            go_wp2_with fail
            refine (HW.out w14).mono ?_
            rintro e w15 ⟨rfl, hb15⟩
            go_wp2_with fail
            go_ret
            exact ⟨rfl, by rw [hN]; exact HB14.out.trans (hb15.mono hz14)⟩
  · have hno : 40 < (m : Int) ∨ ¬ 40 < (m : Int) ∧ fi < 0 ∨ ¬ 40 < (m : Int) ∧ ¬ fi < 0 ∧ 1099511627776 < fi := by omega
    clear hbig
    rcases hno with h1 | ⟨h1, h2⟩ | ⟨h1, h2, h3⟩
    · have hd1 : decide ((40 : Int) < (m : Int)) = true := decide_eq_true h1
      go_enter Try.func3, Try.ntmps3
      go_wp2_with fail
      refine (HW.out w).mono ?_
      rintro e w6 ⟨rfl, hb6⟩
      go_wp2_with fail
      go_ret
      exact ⟨rfl, hb6⟩
    · have hd1 : decide ((40 : Int) < (m : Int)) = false := decide_eq_false h1
      have hd2 : decide (fi < 0) = true := decide_eq_true h2
      go_enter Try.func3, Try.ntmps3
      go_wp2_with fail
      refine (HW.out w).mono ?_
      rintro e w6 ⟨rfl, hb6⟩
      go_wp2_with fail
      go_ret
      exact ⟨rfl, hb6⟩
    · have hd1 : decide ((40 : Int) < (m : Int)) = false := decide_eq_false h1
      have hd2 : decide (fi < 0) = false := decide_eq_false h2
      have hd3 : decide ((1099511627776 : Int) < fi) = true := decide_eq_true h3
      go_enter Try.func3, Try.ntmps3
      go_wp2_with fail
      refine (HW.out w).mono ?_
      rintro e w6 ⟨rfl, hb6⟩
      go_wp2_with fail
      go_ret
      exact ⟨rfl, hb6⟩
end Go.Proofs.Ytiglffkbaddefaa
