/-
  Layer 11: the contract of the reference's lay.
  Layer 11: the contracts of the reference's Places and Entries.
  Layer 11: the contract of the reference's Entries.
  Layer 11: what a table and the reference's list share, behind a Put.
-/
import Derived.Test.YtiglffkbaddefaaPkTabK
import Derived.Test.YtiglffkbaddefaaPkTabF
namespace Go.Proofs.Ytiglffkbaddefaa
open Go.RowKit
set_option linter.unusedVariables false
set_option linter.unusedSimpArgs false

/-- A table's places in a row of the call's own; no count is negative. -/
structure LayAt (w : World) (base : Nat) (v : Value) (n : Nat) (hn : 0 < n) (l : List Ent) : Prop where
  row : w.ownsRow base 32 34 v n (ents l)
  tb : Tb n hn l
  pos : ∀ x ∈ l, 0 ≤ x.count

set_option maxRecDepth 100000 in
set_option maxHeartbeats 16000000 in
theorem rlay_any (w : World) (base n : Nat) (hn : 0 < n) (v : Value) (l : List Ent) (h : LayAt w base v n hn l) (hle : n ≤ 900) (e : Ent) (he : e.ok) (hnew : ∀ f ∈ l, f.count ≠ 0 → f.adr ≠ e.adr) (hroom : cntT l + 1 < n) :
    Calls Try.prog 29 #[v, e.val] w fun r w' => ∃ v', r = .returned v' ∧ ∃ l', LayAt w' w.heap.size v' n hn l' ∧ cntT l' = cntT l + 1 ∧ (∀ y : Ent, (y ∈ l' ∧ y.count ≠ 0) ↔ ((y ∈ l ∧ y.count ≠ 0) ∨ y = e)) ∧ Below w.heap.size w w' := by
  obtain ⟨z, hz, hzn⟩ := cntT_room (l := l) (by rw [h.tb.len]; omega)
  rw [h.tb.len] at hz
  have HG : Hid (Ins n hn (fun y => (y ∈ l ∧ y.count ≠ 0) ∨ y = e) (cntT l) l e ((ruleT n hn).home e.adr) ∧ layT l z = none) := ⟨h.tb.ins he.real hnew hroom, hzn⟩
  obtain ⟨S, hS⟩ : ∃ S, (fun y : Ent => (y ∈ l ∧ y.count ≠ 0) ∨ y = e) = S := ⟨_, rfl⟩
  obtain ⟨m, hm⟩ : ∃ m, cntT l = m := ⟨_, rfl⟩
  rw [hS, hm] at HG
  have HS := Lib.hid hS
  have HM := Lib.hid hm
  have Hpos := Lib.hid h.pos
  have Hep : Hid (0 < e.count) := by show _ < _; have := he.1; omega
  have Hlen := Lib.hid h.tb.len
  have hh : (ruleT n hn).home e.adr < n := (ruleT n hn).home_lt e.adr
  have Hr := Lib.hid (home_rule n hn e.adr)
  have Hse := Lib.hid (ent_size e)
  have HszE := Lib.hid (adr_size e.adr)
  obtain ⟨A, c, rfl, -, hc, hcm, hl⟩ := lies_ownE h.row
  have HL := Lib.hid hl
  clear h hzn hS hm hnew hroom hl
  go_enter Try.func29, Try.ntmps29
  go_wp2_with ((with_reducible refine at_box 32 ?_); refine wpList_box_rowV rfl 32 _ rfl e.cs rfl ?_)
  intro w1 hr1 hb1 hs1
  obtain ⟨b, o, hA, hbB, hra⟩ := lies_rangeE (HL.out.below hb1) (by rw [Hlen.out]; exact hn)
  subst hA
  have Hra := Lib.hid hra
  have HEl : Hid ((ents l).length = n * 34) := by show _ = _; rw [ents_length, Hlen.out]
  obtain ⟨N, hN⟩ : ∃ N, w.heap.size = N := ⟨_, rfl⟩
  rw [hN] at hr1 hb1 hs1 hbB ⊢
  clear hra
  go_wp2_with (first
    | (at_builtin; refine wpList_append_range rfl _ _ 22 rfl (N + 1) 32 Try.underlying22 Try.infoE rfl (by decide) (.slice none 0 0) 0 [] rfl (World.ownsRow_nil _ _ _ _) b o n _ (ents l) rfl HEl.out Hra.out (ents_one _) (by unfold maxLen; omega) (by omega) (by omega) ?_; intro v2 w2 hown2 hg2; have hb2 : Below (N + 1) w1 w2 := (Below.refl _ _).grown hg2 (by omega) (by simp [Value.ownBlock]); have HO2 : Hid (w2.ownsRow (N + 1) 32 34 v2 n (ents l)) := (by have := hown2; rw [Nat.zero_add, List.nil_append] at this; exact this); obtain ⟨g, cap, hv2, hcap, hcapm, hgN, hglt⟩ := own_form HO2.out hn; subst hv2; have HR2 : Hid (RowV w2 N 32 e.cs) := hr1.below (by omega) hb2; have HB2 : Hid (Below N w w2) := hb1.trans (hb2.mono (by omega)); have q2 := Lib.hid (row_range HR2.out); obtain ⟨P, hP⟩ : ∃ P, w2.heap.size = P := ⟨_, rfl⟩; have hNP : N + 1 ≤ P := (by have := hb2.size; omega); have hgP : g < P := (by omega); clear hglt hown2 hg2 hb2 hr1 hb1 hs1)
    | ((with_reducible refine at_load 32 ?_); refine wpList_load_mid rfl 32 _ rfl N 0 rfl e.cs _ q2.out Try.underlying32 rfl Hse.out ?_)
    | ((with_reducible refine at_alloc 32 ?_); refine wpList_alloc_rowV rfl 32 rfl zeroEnt.cs Try.zeroEnt11 ?_; intro w3 hr3 hb3 hs3; rw [hP] at hr3 hb3 ⊢)
    | ((with_reducible refine at_store 32 ?_); refine wpList_store_rowV rfl 32 _ _ rfl P e.cs rfl rfl 32 zeroEnt.cs hr3 (by rw [List.size_toArray]; exact ent_size _) (by rw [List.size_toArray, List.size_toArray, Ent.cs_length, Ent.cs_length]) (all_oneCell_toArray (Ent.one _)) ?_; intro w4 hr4 hg4 hs4; have hb4 : Below P w2 w4 := below_grown hb3 hg4 (Nat.le_refl _) (by have := hb3.size; omega); have HO4 : Hid (w4.ownsRow (N + 1) 32 34 (.slice (some ⟨g, 0, none⟩) n cap) n (ents l)) := own_below HO2.out (by rw [hP]; exact hb4); have q4 : Hid (w4.rangeAt N 0 (cells e.adr.1)) := adr_of (row_range (HR2.out.below (by omega) hb4)); have HB4 : Hid (Below N w w4) := HB2.out.trans (hb4.mono (by omega)); have hs4' : P + 1 ≤ w4.heap.size := (by omega); clear hb3 hg4 hs4 hb4 hr3 q2 HO2 HR2 HB2)
    | ((with_reducible refine at_load 30 ?_); refine wpList_load_mid rfl 30 _ rfl N 0 rfl (cells e.adr.1) _ q4.out Try.underlying30 rfl HszE.out ?_))
  refine (rhome_any e.adr.1 e.adr.2 (n : Int) w4 (by omega)).mono ?_
  rintro r w5 ⟨rfl, hb5⟩
  rw [Hr.out]
  have hPlt : P < w4.heap.size := hr4.lt
  have HO5 : Hid (w5.ownsRow (N + 1) 32 34 (.slice (some ⟨g, 0, none⟩) n cap) n (ents l)) := own_below HO4.out hb5
  have HR5 : Hid (RowV w5 P 32 e.cs) := hr4.below hPlt hb5
  have HB5 : Hid (Below N w w5) := HB4.out.trans (hb5.mono (by omega))
  have HZ5 : Hid (P + 1 ≤ w5.heap.size ∧ g < w5.heap.size) := by show _ ∧ _; have := hb5.size; omega
  have HPos5 : Hid (∀ x ∈ l, 0 ≤ x.count) := Hpos.out
  generalize (ruleT n hn).home e.adr = p0 at *
  clear HO4 hr4 HB4 hb5 q4 hs4' hPlt HL Hr
  go_wp2_with fail
  go_loopw [8] (fun s W => ∃ (p : Nat) (l' : List Ent) (x : Ent), p < n ∧ s = .int .i64 p ∧ Hid (Ins n hn S m l' x p ∧ layT l' z = none) ∧ Hid (W.ownsRow (N + 1) 32 34 (.slice (some ⟨g, 0, none⟩) n cap) n (ents l')) ∧ Hid (RowV W P 32 x.cs) ∧ Hid (Below N w W) ∧ Hid (∀ y ∈ l', 0 ≤ y.count) ∧ Hid (0 < x.count)) (fun s _ => farF n (intOf s).toNat z)
  case atStart => exact ⟨p0, l, e, hh, rfl, HG, HO5, HR5, HB5, HPos5, Hep⟩
  case round =>
    obtain ⟨p, l', x, hp, rfl, HK, HO, HR, HB, HP, HX⟩ := hrel
    clear HG HO5 HR5 HB5 HPos5 HZ5
    obtain ⟨f, hf⟩ := HK.out.1.get
    have c1 := ent_count HO.out hf
    have Hf := Lib.hid hf
    have hfpos := HP.out f (List.mem_of_getElem? hf)
    have qF : Hid (wr.rangeAt g (p * 34) f.cs) := ent_range HO.out hf
    have qP := Lib.hid (row_range HR.out)
    have Hsx := Lib.hid (ent_size x)
    have Hsf := Lib.hid (ent_size f)
    have hlen : l'.length = n := HK.out.1.len
    have Hlen' := Lib.hid hlen
    have hPz : P < wr.heap.size := HR.out.lt
    have hp' : (p : Int) < (n : Int) := by omega
    have hp0 : (0 : Int) ≤ (p : Int) := by omega
    have hri : ((p : Int) + 1) % (n : Int) = ((nextP n p : Nat) : Int) := by rw [← nextP_mod hp]; exact (Int.natCast_emod (p + 1) n).symm
    have hnp := nextP_lt hp
    have hset := fun W (h : W.ownsRow (N + 1) 32 34 (.slice (some ⟨g, 0, none⟩) n cap) n (ents l')) => own_put x.cs (p * 34) W (ents l') h (by rw [Ent.cs_length]; omega)
    rw [ents_put (by rw [hlen]; exact hp)] at hset
    have Hset := Lib.hid hset
    clear hf hlen hset
    by_cases cf : f.count = 0
    · have HFin := Lib.hid (HK.out.1.rest Hf.out cf)
      have hposn : ∀ y ∈ l'.set p x, 0 ≤ y.count := by
        intro y hy
        rcases List.mem_or_eq_of_mem_set hy with h1 | rfl
        · exact HP.out y h1
        · exact Int.le_of_lt HX.out
      have Hposn := Lib.hid hposn
      have ht : wr.there g (p * 34) 34 := own_there HO.out _ _ (by omega)
      rw [cf] at c1
      clear hposn hfpos
      go_wp2_with (first
        | ((with_reducible refine at_load 32 ?_); refine wpList_load_mid rfl 32 _ rfl P 0 rfl x.cs _ qP.out Try.underlying32 rfl Hsx.out ?_)
        | ((with_reducible refine at_store 32 ?_); refine wpList_store_midV rfl 32 _ _ rfl g (p * 34) x.cs rfl rfl (by rw [List.size_toArray, Ent.cs_length]; exact ht) (by rw [List.size_toArray]; exact ent_size _) (all_oneCell_toArray (Ent.one _)) ?_; intro w6 hw6; subst hw6))
      go_ret
      have hfin := Hset.out wr HO.out
      have hown := own_rebase (base' := N) hfin.1 (fun k e => by have : N + 1 ≤ k := own_ge hfin.1 k e; omega)
      refine ⟨_, rfl, _, ⟨hown, HFin.out.1, Hposn.out⟩, by rw [HM.out]; exact HFin.out.2.1, fun y => by have := HFin.out.2.2 y; rw [← HS.out] at this; exact this, ?_⟩
      try rw [hN]
      exact HB.out.grown hfin.2 (by have := HB.out.size; omega) (fun k e => by injection e with e; omega)
    · have hfp : 0 < f.count := by omega
      have HszX := Lib.hid (adr_size x.adr)
      have HszF := Lib.hid (adr_size f.adr)
      have q1 : Hid (wr.drew.rangeAt P 0 (cells x.adr.1)) := adr_of qP.out
      have q2 : Hid (wr.drew.rangeAt g (p * 34) (cells f.adr.1)) := adr_of qF.out
      have hHP : Hid (0 < f.count) := hfp
      go_wp2_with fail
      refine wp_region_still_tail 9 (by kernel_rfl) (by kernel_rfl) ?_
      simp only [List.take_succ_cons, List.take_zero, List.drop_succ_cons, List.drop_zero]
      still_step
      refine wpStill_exec (.agg (cells x.adr.1).toArray) rfl (by refine exec_load_mid 30 (.tmp 26) ?_ P 0 ?_ (cells x.adr.1) _ q1.out Try.underlying30 rfl HszX.out <;> rfl) ?_
      try simp only [Act.put, List.setIfInBounds_toArray, List.set_cons_zero, List.set_cons_succ]
      iterate 4 still_step
      refine wpStill_exec (.agg (cells f.adr.1).toArray) rfl (by refine exec_load_mid 30 (.tmp 31) ?_ g (p * 34) ?_ (cells f.adr.1) _ q2.out Try.underlying30 rfl HszF.out <;> rfl) ?_
      try simp only [Act.put, List.setIfInBounds_toArray, List.set_cons_zero, List.set_cons_succ]
      iterate 2 still_step
      refine wpStill_nil ?_
      change wpList _ _ _ _ _ wr.drew
      have HOd : Hid (wr.drew.ownsRow (N + 1) 32 34 (.slice (some ⟨g, 0, none⟩) n cap) n (ents l')) := HO.out.drew
      have HRd : Hid (RowV wr.drew P 32 x.cs) := HR.out.drew
      have HBd : Hid (Below N w wr.drew) := HB.out.drew
      have hPd : P < wr.drew.heap.size := hPz
      clear HO HR HB q1 q2 qF qP c1 hPz hfpos
      generalize wr.drew = wd at *
      go_wp2_with fail
      refine (rgoes_any wd n hn (by omega) x.adr f.adr p hp).mono ?_
      rintro r w6 ⟨rfl, hb6⟩
      have HO6 : Hid (w6.ownsRow (N + 1) 32 34 (.slice (some ⟨g, 0, none⟩) n cap) n (ents l')) := own_below HOd.out hb6
      have HR6 : Hid (RowV w6 P 32 x.cs) := HRd.out.below hPd hb6
      have HB6 : Hid (Below N w w6) := HBd.out.trans (hb6.mono (by omega))
      have hP6 : P < w6.heap.size := HR6.out.lt
      clear HOd HRd HBd hPd hb6
      by_cases hy : goesB n hn x.adr f.adr p = true
      · rw [hy]
        have hg' := goesB_iff.1 hy
        have H1 : Hid (Ins n hn S m (l'.set p x) f (nextP n p) ∧ layT (l'.set p x) z = none) := by
          have hzp : z ≠ p := by rintro rfl; have := HK.out.2; rw [layT_at Hf.out, if_neg cf] at this; cases this
          refine ⟨(HK.out.1.swapped Hf.out cf hg').1, ?_⟩
          rw [layT_set (by rw [Hlen'.out]; exact hp) HK.out.1.real, putP_other _ _ hzp]
          exact HK.out.2
        have H2 := Lib.hid (HK.out.1.toward Hf.out cf hz HK.out.2)
        have H3 : Hid (∀ y ∈ l'.set p x, 0 ≤ y.count) := by
          intro y hy
          rcases List.mem_or_eq_of_mem_set hy with h1 | rfl
          · exact HP.out y h1
          · exact Int.le_of_lt HX.out
        have qF : Hid (w6.rangeAt g (p * 34) f.cs) := ent_range HO6.out Hf.out
        obtain ⟨M, hM⟩ : ∃ M, w6.heap.size = M := ⟨_, rfl⟩
        rw [hM] at hP6
        clear hy hg'
        go_wp2_with (first
          | ((with_reducible refine at_load 32 ?_); refine wpList_load_mid rfl 32 _ rfl g (p * 34) rfl f.cs _ qF.out Try.underlying32 rfl Hsf.out ?_)
          | ((with_reducible refine at_alloc 32 ?_); refine wpList_alloc_rowV rfl 32 rfl zeroEnt.cs Try.zeroEnt11 ?_; intro w7 hr7 hb7 hs7; rw [hM] at hr7 hb7 ⊢)
          | ((with_reducible refine at_store 32 ?_); refine wpList_store_rowV rfl 32 _ _ rfl M f.cs rfl rfl 32 zeroEnt.cs hr7 (by rw [List.size_toArray]; exact ent_size _) (by rw [List.size_toArray, List.size_toArray, Ent.cs_length, Ent.cs_length]) (all_oneCell_toArray (Ent.one _)) ?_; intro w8 hr8 hg8 hs8; have hb8 : Below M w6 w8 := below_grown hb7 hg8 (Nat.le_refl _) (by have := hb7.size; omega); have HO8 : Hid (w8.ownsRow (N + 1) 32 34 (.slice (some ⟨g, 0, none⟩) n cap) n (ents l')) := own_below HO6.out (by rw [hM]; exact hb8); have HR8 : Hid (RowV w8 P 32 x.cs) := HR6.out.below hP6 hb8; have HB8 : Hid (Below N w w8) := HB6.out.trans (hb8.mono (by omega)); have q8 := Lib.hid (row_range HR8.out); have ht8 : w8.there g (p * 34) 34 := own_there HO8.out _ _ (by omega); clear hb7 hg8 hs8 hb8 hr7 qF HO6 HR6 HB6)
          | ((with_reducible refine at_load 32 ?_); refine wpList_load_mid rfl 32 _ rfl P 0 rfl x.cs _ q8.out Try.underlying32 rfl Hsx.out ?_)
          | ((with_reducible refine at_store 32 ?_); refine wpList_store_midV rfl 32 _ _ rfl g (p * 34) x.cs rfl rfl (by rw [List.size_toArray, Ent.cs_length]; exact ht8) (by rw [List.size_toArray]; exact ent_size _) (all_oneCell_toArray (Ent.one _)) ?_; intro w9 hw9; have hs9 := Hset.out w8 HO8.out; rw [← hw9] at hs9; have HO9 := Lib.hid hs9.1; have HR9 : Hid (RowV w9 P 32 x.cs) := HR8.out.keep hs9.2 (fun e => by injection e with e; omega); have HB9 : Hid (Below N w w9) := HB8.out.grown hs9.2 (by have := HB8.out.size; omega) (fun k e => by injection e with e; omega); have hr9 : RowV w9 M 32 f.cs := hr8.keep hs9.2 (fun e => by injection e with e; omega); have q9 := Lib.hid (row_range hr9); clear hw9 hs9 HO8 HR8 HB8 q8 ht8 hr8)
          | ((with_reducible refine at_load 32 ?_); refine wpList_load_mid rfl 32 _ rfl M 0 rfl f.cs _ q9.out Try.underlying32 rfl Hsf.out ?_)
          | ((with_reducible refine at_store 32 ?_); refine wpList_store_rowV rfl 32 _ _ rfl P f.cs rfl rfl 32 x.cs HR9.out (by rw [List.size_toArray]; exact ent_size _) (by rw [List.size_toArray, List.size_toArray, Ent.cs_length, Ent.cs_length]) (all_oneCell_toArray (Ent.one _)) ?_; intro w10 hr10 hg10 hs10; have HO10 : Hid (w10.ownsRow (N + 1) 32 34 (.slice (some ⟨g, 0, none⟩) n cap) n (ents (l'.set p x))) := HO9.out.kept hg10 (.inr (fun e => by have e2 : some g = some P := e; injection e2 with e2; omega)); have HB10 : Hid (Below N w w10) := HB9.out.grown hg10 (by have := HB9.out.size; omega) (fun k e => by injection e with e; omega); have HR10 := Lib.hid hr10; clear hr10 hg10 hs10 HO9 HR9 HB9 hr9 q9))
        go_roundw
        case rel => exact ⟨nextP n p, l'.set p x, f, hnp, by go_num, H1, HO10, HR10, HB10, H3, hHP⟩
        case measure => have := H2.out; rw [hri]; simp [intOf]; omega
      · rw [Bool.eq_false_iff.2 hy]
        have hg' : ¬ (ruleT n hn).goes x.adr f.adr p := fun h => hy (goesB_iff.2 h)
        have H1 : Hid (Ins n hn S m l' x (nextP n p) ∧ layT l' z = none) := ⟨(HK.out.1.pass Hf.out cf hg').1, HK.out.2⟩
        have H2 := Lib.hid (HK.out.1.toward Hf.out cf hz HK.out.2)
        clear hy hg'
        go_wp2_with fail
        go_roundw
        case rel => exact ⟨nextP n p, l', x, hnp, by go_num, H1, HO6, HR6, HB6, HP, HX⟩
        case measure => have := H2.out; rw [hri]; simp [intOf]; omega
end Go.Proofs.Ytiglffkbaddefaa
namespace Go.Proofs.Ytiglffkbaddefaa
open Go.RowKit
set_option linter.unusedVariables false
set_option linter.unusedSimpArgs false

/-- What a table and a list share. -/
structure Like (n : Nat) (hn : 0 < n) (l r : List Ent) : Prop where
  tb : Tb n hn l
  mem : ∀ x : Ent, x.count ≠ 0 → (x ∈ l ↔ x ∈ r)
  ok : ∀ x ∈ r, x.ok
  dst : Dst r
  cnt : cntT l = r.length
theorem Dst.take {l : List Ent} (h : Dst l) (k : Nat) : Dst (l.take k) := List.Pairwise.sublist (List.take_sublist k l) h
theorem Dst.snoc_of {l : List Ent} (h : Dst l) {k : Nat} {e : Ent} (he : l[k]? = some e) : ∀ x ∈ l.take k, x.adr ≠ e.adr := by
  have h1 := h.take (k + 1)
  rw [take_snoc he] at h1
  exact (Dst.snoc.1 h1).2

set_option maxRecDepth 100000 in
set_option maxHeartbeats 8000000 in
theorem rplaces_any (w : World) (v : Value) (r : List Ent) (n : Nat) (hn : 0 < n) (hle : n ≤ 900) (h : RowE w v r) (hok : ∀ x ∈ r, x.ok) (hd : Dst r) (hr : r.length < n) :
    Calls Try.prog 10 #[v, .int .i64 (n : Int)] w fun e w' => ∃ v', e = .returned v' ∧ ∃ l', w'.ownsRow w.heap.size 32 34 v' n (ents l') ∧ Like n hn l' r ∧ Below w.heap.size w w' := by
  obtain ⟨A, c, rfl, hc, hl⟩ := h
  obtain ⟨i0, hi, hz0, hz1, hz2⟩ := info_parts Try.infoE
  have HL := Lib.hid hl
  have Hok := Lib.hid hok
  have Hd := Lib.hid hd
  obtain ⟨m, hm⟩ : ∃ m, r.length = m := ⟨_, rfl⟩
  have Hm := Lib.hid hm
  rw [hm] at hr hc ⊢
  clear hl hok hd hm
  go_enter Try.func10, Try.ntmps10
  go_wp2_with (at_make; refine wpList_make_full _ rfl _ _ 22 rfl w.heap.size 32 i0 (.agg zeroEnt.cs.toArray) 34 Try.underlying22 hi hz0 hz1 .i64 .i64 _ _ n rfl rfl rfl rfl (by rw [hz2]; omega) (by unfold maxLen; omega) (Nat.le_refl _) ?_)
  intro w1 hown hg1
  rw [zero_ents] at hown
  have hb1 : Below w.heap.size w w1 := (Below.refl _ _).grown hg1 (Nat.le_refl _) (by simp)
  obtain ⟨N, hN⟩ : ∃ N, w.heap.size = N := ⟨_, rfl⟩
  have HL0 : Hid (LiesV w N A (ents r)) := by rw [← hN]; exact HL.out
  rw [hN] at hown hb1 ⊢
  have HO1 : Hid (LayAt w1 N (.slice (some ⟨N, 0, none⟩) n n) n hn (List.replicate n zeroEnt)) := ⟨hown, Tb.new n hn, fun x hx => by rw [List.eq_of_mem_replicate hx]; decide⟩
  have HM1 : Hid (∀ x : Ent, x.count ≠ 0 → (x ∈ List.replicate n zeroEnt ↔ x ∈ r.take 0)) := fun x hx => by
    constructor
    · intro h; rw [List.eq_of_mem_replicate h] at hx; exact absurd rfl hx
    · simp
  have HC1 : Hid (cntT (List.replicate n zeroEnt) = 0) := by show _ = _; simp [cntT, zeroEnt]
  have HB1 := Lib.hid hb1
  have hs1 : N ≤ w1.heap.size := by have := hb1.size; omega
  clear hown hg1 hb1
  go_wp2_with fail
  go_loopw [5, 6] (fun v5 v W => ∃ (k : Nat) (l' : List Ent), k ≤ m ∧ v = .int .i64 k ∧ Hid (LayAt W N v5 n hn l') ∧ Hid (∀ x : Ent, x.count ≠ 0 → (x ∈ l' ↔ x ∈ r.take k)) ∧ Hid (cntT l' = k) ∧ Hid (Below N w W) ∧ Hid (N ≤ W.heap.size)) (fun _ v _ => m - (intOf v).toNat)
  case atStart => exact ⟨0, _, Nat.zero_le _, rfl, HO1, HM1, HC1, HB1, hs1⟩
  case round =>
    obtain ⟨k, l', hk, rfl, HO, HM, HC, HB, HZ⟩ := hrel
    clear HO1 HM1 HC1 HB1 hs1
    by_cases hlt : k < m
    · have hlt' : (k : Int) < (m : Int) := by omega
      have hk0 : (0 : Int) ≤ (k : Int) := by omega
      obtain ⟨e, he⟩ : ∃ e, r[k]? = some e := ⟨_, List.getElem?_eq_getElem (by rw [Hm.out]; exact hlt)⟩
      obtain ⟨b, o, hA, hb, hra⟩ := lies_ent (HL0.out.below HB.out) he
      subst hA
      have Hra := Lib.hid hra
      have Hse := Lib.hid (ent_size e)
      have He := Lib.hid he
      have heok := Hok.out e (List.mem_of_getElem? he)
      have Heok := Lib.hid heok
      have hz := HZ.out
      have HN : Hid (∀ f ∈ l', f.count ≠ 0 → f.adr ≠ e.adr) := fun f hf hfc => Hd.out.snoc_of He.out f ((HM.out f hfc).1 hf)
      have hroom : cntT l' + 1 < n := by rw [HC.out]; omega
      have Hroom := Lib.hid hroom
      clear he hra heok hroom
      go_wp2_with ((with_reducible refine at_load 32 ?_); refine wpList_load_mid rfl 32 _ rfl b (o + k * 34) rfl e.cs _ Hra.out Try.underlying32 rfl Hse.out ?_)
      refine (rlay_any wr N n hn _ l' HO.out hle e Heok.out HN.out Hroom.out).mono ?_
      rintro r2 w2 ⟨v2, rfl, l2, hO2, hc2, hm2, hb2⟩
      have HO2 : Hid (LayAt w2 N v2 n hn l2) := ⟨own_rebase (base' := N) hO2.row (fun k e => by have := own_ge hO2.row k e; omega), hO2.tb, hO2.pos⟩
      have HM2 : Hid (∀ x : Ent, x.count ≠ 0 → (x ∈ l2 ↔ x ∈ r.take (k + 1))) := by
        intro x hx
        rw [take_snoc He.out, List.mem_append, List.mem_singleton, ← HM.out x hx]
        constructor
        · intro h
          exact ((hm2 x).1 ⟨h, hx⟩).imp (·.1) id
        · intro h
          exact ((hm2 x).2 (h.imp (fun h => ⟨h, hx⟩) id)).1
      have HC2 : Hid (cntT l2 = k + 1) := by show _ = _; rw [hc2, HC.out]
      have HB2 : Hid (Below N w w2) := HB.out.trans (hb2.mono hz)
      have hz2 : N ≤ w2.heap.size := by have := hb2.size; omega
      clear hO2 hc2 hm2 hb2 HO HM HC HB HZ
      go_wp2_with fail
      go_roundw
      case rel => exact ⟨k + 1, l2, by omega, by go_num, HO2, HM2, HC2, HB2, hz2⟩
      case measure => simp [intOf]; omega
    · obtain rfl : k = m := by omega
      have HLk : Hid (Like n hn l' r) := by
        refine ⟨HO.out.tb, fun x hx => ?_, Hok.out, Hd.out, by rw [HC.out, Hm.out]⟩
        rw [HM.out x hx, List.take_of_length_le (by rw [Hm.out]; exact Nat.le_refl _)]
      go_wp2_with fail
      go_ret
      exact ⟨_, rfl, l', by first | exact HO.out.row | (rw [hN]; exact HO.out.row), HLk.out, by first | exact HB.out | (rw [hN]; exact HB.out)⟩
end Go.Proofs.Ytiglffkbaddefaa
namespace Go.Proofs.Ytiglffkbaddefaa
open Go.RowKit
set_option linter.unusedVariables false
set_option linter.unusedSimpArgs false

/-- The entries of the first k places. -/
structure Upto (n : Nat) (l o : List Ent) (k : Nat) : Prop where
  mem : ∀ x, x ∈ o ↔ (x ∈ l.take k ∧ x.count ≠ 0)
  zero : ∀ x ∈ l.take k, x.count = 0 → x = zeroEnt
  ok : ∀ x ∈ o, x.ok
  dst : Dst o
  cnt : o.length = cntT (l.take k)
  room : o.length < n ∨ o = []
theorem cntT_take_le (l : List Ent) (k : Nat) : cntT (l.take k) ≤ cntT l := by
  unfold cntT
  conv => rhs; rw [← List.take_append_drop k l, List.countP_append]
  omega
section
variable {n k : Nat} {l o o' : List Ent} {e : Ent}
theorem Upto.start (n : Nat) (l : List Ent) : Upto n l [] 0 := ⟨by simp, by simp, by simp, List.Pairwise.nil, by simp [cntT], .inr rfl⟩
theorem Upto.skip (h : Upto n l o k) (he : l[k]? = some e) (hz : e = zeroEnt) : Upto n l o (k + 1) := by
  have z0 : e.count = 0 := by rw [hz]; rfl
  refine ⟨fun x => ?_, fun x hx hc => ?_, h.ok, h.dst, by rw [cntT_take he, if_pos z0, h.cnt]; rfl, h.room⟩
  · rw [h.mem x, take_snoc he, List.mem_append, List.mem_singleton]
    constructor
    · exact fun h => ⟨.inl h.1, h.2⟩
    · rintro ⟨h1 | rfl, h2⟩
      · exact ⟨h1, h2⟩
      · exact absurd z0 h2
  · rw [take_snoc he] at hx
    rcases List.mem_append.1 hx with h1 | h1
    · exact h.zero x h1 hc
    · rw [List.mem_singleton.1 h1]; exact hz
theorem Upto.put (h : Upto n l o k) (he : l[k]? = some e) (hc : e.count ≠ 0) (hno : ∀ x ∈ o, x.adr ≠ e.adr) {code : Int} (hp : RPutP o n e code o') (h0 : code = 0) : Upto n l o' (k + 1) := by
  subst h0
  rcases hp with ⟨_, h1, _⟩ | ⟨_, ⟨f, hf, hfa⟩, _⟩ | ⟨_, _, _, h1, _⟩ | ⟨h1, h2, h3, _, rfl⟩
  · cases h1
  · exact absurd hfa (hno f hf)
  · cases h1
  · have hl : (putR o e).length = o.length + 1 := by rw [putR_len, cnt_no h2]
    refine ⟨fun x => ?_, fun x hx hc' => ?_, fun x hx => ?_, putR_dst e h.dst, by rw [hl, cntT_take he, if_neg hc, h.cnt], .inl (by omega)⟩
    · rw [putR_mem, take_snoc he, List.mem_append, List.mem_singleton]
      constructor
      · rintro (⟨a, _⟩ | rfl)
        · exact ⟨.inl ((h.mem x).1 a).1, ((h.mem x).1 a).2⟩
        · exact ⟨.inr rfl, hc⟩
      · rintro ⟨a | rfl, b⟩
        · have := (h.mem x).2 ⟨a, b⟩
          exact .inl ⟨this, hno x this⟩
        · exact .inr rfl
    · rw [take_snoc he] at hx
      rcases List.mem_append.1 hx with a | a
      · exact h.zero x a hc'
      · rw [List.mem_singleton.1 a] at hc'; exact absurd hc' hc
    · rcases (putR_mem o e x).1 hx with ⟨a, _⟩ | rfl
      · exact h.ok x a
      · exact h1
theorem Upto.bad (h : Upto n l o k) (hl : n = l.length) (he : l[k]? = some e) (hc : e.count ≠ 0) (hno : ∀ x ∈ o, x.adr ≠ e.adr) {code : Int} (hp : RPutP o n e code o') (h0 : code ≠ 0) : ¬ TabOK l := by
  rintro ⟨hn, _, ht, hok⟩
  have hroom := ht.room
  have h1 := cntT_take_le l (k + 1)
  rw [cntT_take he, if_neg hc, ← h.cnt] at h1
  rcases hp with ⟨h2, _⟩ | ⟨_, ⟨f, hf, hfa⟩, _⟩ | ⟨_, _, h2, _⟩ | ⟨_, _, _, h2, _⟩
  · exact h2 (hok e (List.mem_of_getElem? he) hc)
  · exact hno f hf hfa
  · omega
  · exact h0 h2
theorem Upto.twice (h : Upto n l o k) (he : l[k]? = some e) (hc : e.count ≠ 0) (hx : ∃ x ∈ o, x.adr = e.adr) : ¬ TabOK l := by
  rintro ⟨hn, _, ht, _⟩
  obtain ⟨x, hx, ha⟩ := hx
  obtain ⟨h1, h2⟩ := (h.mem x).1 hx
  exact ht.before he hc x h1 h2 ha
end
/-- What the reference's Entries answers. -/
def EntriesP (w' : World) (l : List Ent) (r : Ending) : Prop :=
  (∃ v o, r = .returned (.tuple #[v, .bool true]) ∧ RowE w' v o ∧ Upto l.length l o l.length) ∨ (¬ TabOK l ∧ r = .returned (.tuple #[.slice none 0 0, .bool false]))

set_option maxRecDepth 100000 in
set_option maxHeartbeats 8000000 in
theorem rentries_any (w : World) (B n c : Nat) (A : Option Addr) (l : List Ent) (h : LiesV w B A (ents l)) (hn : n = l.length) (hB : B ≤ w.heap.size) (hle : n ≤ 400) (hc : n ≤ c) :
    Calls Try.prog 40 #[.slice A n c] w fun r w' => EntriesP w' l r ∧ Below w.heap.size w w' := by
  have HL := Lib.hid h
  have Hn := Lib.hid hn
  clear h hn
  obtain ⟨N, hN⟩ : ∃ N, w.heap.size = N := ⟨_, rfl⟩
  rw [hN] at hB ⊢
  have HO0 : Hid (RowE w (.slice none 0 0) []) := RowE.nil w
  have HU0 := Lib.hid (Upto.start n l)
  have HB0 : Hid (Below N w w) := Below.refl _ _
  go_enter Try.func40, Try.ntmps40
  go_wp2_with fail
  go_loopw [4, 5] (fun v4 v W => ∃ (k : Nat) (o : List Ent), k ≤ n ∧ v = .int .i64 k ∧ Hid (RowE W v4 o) ∧ Hid (Upto n l o k) ∧ Hid (Below N w W) ∧ Hid (N ≤ W.heap.size)) (fun _ v _ => n - (intOf v).toNat)
  case atStart => exact ⟨0, [], Nat.zero_le _, rfl, HO0, HU0, HB0, by show _ ≤ _; omega⟩
  case round =>
    obtain ⟨k, o, hk, rfl, HO, HU, HB, HZ⟩ := hrel
    clear HO0 HU0 HB0
    by_cases hlt : k < n
    · have hlt' : (k : Int) < (n : Int) := by omega
      have hk0 : (0 : Int) ≤ (k : Int) := by omega
      obtain ⟨e, he⟩ : ∃ e, l[k]? = some e := ⟨_, List.getElem?_eq_getElem (by rw [← Hn.out]; exact hlt)⟩
      obtain ⟨b, p, hA, hb, hra⟩ := lies_ent (HL.out.below (HB.out.mono hB)) he
      subst hA
      have Hra := Lib.hid hra
      have Hrd := Lib.hid (adr_of hra)
      have Hse := Lib.hid (ent_size e)
      have HszE := Lib.hid (adr_size e.adr)
      have He := Lib.hid he
      have c1 := count_of hra
      have hz := HZ.out
      have hol : o.length ≤ k := by
        have h1 := HU.out.cnt
        have h2 := cntT_le (l.take k)
        rw [List.length_take] at h2
        omega
      have Hol := Lib.hid hol
      clear he hra hol
      by_cases hc : e.count = 0
      · rw [hc] at c1
        by_cases hez : e = zeroEnt
        · have E4 := Lib.hid (eq_ent wr e zeroEnt)
          rw [decide_eq_true hez] at E4
          have HU1 := Lib.hid (HU.out.skip He.out hez)
          clear hez
          go_wp2_with (first
            | ((with_reducible refine at_load 32 ?_); refine wpList_load_mid rfl 32 _ rfl b (p + k * 34) rfl e.cs _ Hra.out Try.underlying32 rfl Hse.out ?_)
            | ((with_reducible refine at_build 32 ?_); refine wpList_build_to rfl 32 _ rfl zeroEnt.cs Try.builtE0 ?_)
            | ((with_reducible refine at_neqS 32 ?_); refine wpList_neqS rfl 32 _ _ 32 rfl (by kernel_rfl) (xs := e.cs.toArray) (ys := zeroEnt.cs.toArray) rfl rfl E4.out ?_))
          go_roundw
          case rel => exact ⟨k + 1, o, by omega, by go_num, HO, HU1, HB, HZ⟩
          case measure => simp [intOf]; omega
        · have E4 := Lib.hid (eq_ent wr e zeroEnt)
          rw [decide_eq_false hez] at E4
          have Hbad : Hid (¬ TabOK l) := by
            rintro ⟨_, _, ht, _⟩
            exact hez (ht.zero e (List.mem_of_getElem? He.out) hc)
          clear hez
          go_wp2_with (first
            | ((with_reducible refine at_load 32 ?_); refine wpList_load_mid rfl 32 _ rfl b (p + k * 34) rfl e.cs _ Hra.out Try.underlying32 rfl Hse.out ?_)
            | ((with_reducible refine at_build 32 ?_); refine wpList_build_to rfl 32 _ rfl zeroEnt.cs Try.builtE0 ?_)
            | ((with_reducible refine at_neqS 32 ?_); refine wpList_neqS rfl 32 _ _ 32 rfl (by kernel_rfl) (xs := e.cs.toArray) (ys := zeroEnt.cs.toArray) rfl rfl E4.out ?_))
          go_ret2
          exact ⟨.inr ⟨Hbad.out, rfl⟩, HB.out⟩
      · have hd : (e.count == 0) = false := by rw [beq_eq_false_iff_ne]; exact hc
        have Hc := Lib.hid hc
        obtain ⟨A4, c4, hv4, hc4, hl4⟩ := HO.out
        subst hv4
        have HL4 := Lib.hid hl4
        have Hc4 := Lib.hid hc4
        clear hl4 hc4
        obtain ⟨m, hm⟩ : ∃ m, o.length = m := ⟨_, rfl⟩
        have Hm := Lib.hid hm
        rw [hm] at HO Hc4 Hol ⊢
        clear hm
        go_wp2_with ((with_reducible refine at_load 30 ?_); refine wpList_load_mid rfl 30 _ rfl b (p + k * 34) rfl (cells e.adr.1) _ Hrd.out Try.underlying30 rfl HszE.out ?_)
        have hm400 : m ≤ 1000 := by have := Hol.out; omega
        refine (rfind_any wr wr.heap.size m c4 A4 o e.adr HL4.out Hm.out.symm (Nat.le_refl _) hm400 Hc4.out).mono ?_
        rintro r w3 ⟨⟨kk, rfl, hf⟩, hb3⟩
        have HO3 : Hid (RowE w3 (.slice A4 m c4) o) := HO.out.later hb3
        have HB3 : Hid (Below N w w3) := HB.out.trans (hb3.mono hz)
        have hz3 : N ≤ w3.heap.size := by have := hb3.size; omega
        have hbz : b < wr.heap.size := by omega
        have Hra3 := Lib.hid (range_belowE Hra.out hb3 hbz)
        clear hb3 HO HB HZ Hra Hrd c1 HL4
        rcases hf with ⟨kx, f, rfl, hkx, hfa⟩ | ⟨rfl, hno⟩
        · have Hbad := Lib.hid (HU.out.twice He.out hc ⟨f, List.mem_of_getElem? hkx, hfa⟩)
          have hdk : decide ((kx : Int) ≥ 0) = true := decide_eq_true (by omega)
          have hdk' : (0 : Int) ≤ (kx : Int) := by omega
          clear hkx hfa
          go_wp2_with fail
          go_ret2
          exact ⟨.inr ⟨Hbad.out, rfl⟩, HB3.out⟩
        · have Hno := Lib.hid hno
          clear hno
          go_wp2_with ((with_reducible refine at_load 32 ?_); refine wpList_load_mid rfl 32 _ rfl b (p + k * 34) rfl e.cs _ Hra3.out Try.underlying32 rfl Hse.out ?_)
          have hol9 : o.length ≤ 900 := by rw [Hm.out]; have := Hol.out; omega
          refine (rput11_any w3 (.slice A4 m c4) o n e HO3.out HU.out.dst hol9 (by omega)).mono ?_
          rintro r w4 ⟨code, o', v', rfl, hO4, -, hp, hb4⟩
          have HO4 := Lib.hid hO4
          have HB4 : Hid (Below N w w4) := HB3.out.trans (hb4.mono hz3)
          have hz4 : N ≤ w4.heap.size := by have := hb4.size; omega
          clear hO4 hb4 HB3 HO3 Hra3
          by_cases hcode : code = 0
          · have HU1 := Lib.hid (HU.out.put He.out Hc.out Hno.out hp hcode)
            have hdc : (code == 0) = true := by rw [beq_iff_eq]; exact hcode
            clear hp
            go_wp2_with fail
            go_roundw
            case rel => exact ⟨k + 1, o', by omega, by go_num, HO4, HU1, HB4, hz4⟩
            case measure => simp [intOf]; omega
          · have Hbad := Lib.hid (HU.out.bad Hn.out He.out Hc.out Hno.out hp hcode)
            have hdc : (code == 0) = false := by rw [beq_eq_false_iff_ne]; exact hcode
            clear hp
            go_wp2_with fail
            go_ret2
            exact ⟨.inr ⟨Hbad.out, rfl⟩, HB4.out⟩
    · obtain rfl : k = n := by omega
      have HU1 : Hid (Upto l.length l o l.length) := by have := HU.out; rw [Hn.out] at this; exact this
      go_wp2_with fail
      go_ret2
      exact ⟨.inl ⟨_, o, rfl, HO.out, HU1.out⟩, HB.out⟩
end Go.Proofs.Ytiglffkbaddefaa
namespace Go.Proofs.Ytiglffkbaddefaa
open Go.RowKit
set_option linter.unusedVariables false
set_option linter.unusedSimpArgs false

section
variable {n : Nat} {hn : 0 < n} {l r l2 r2 : List Ent} {e : Ent} {a : Adr} {c1 c2 : Int}
theorem Like.real (h : Like n hn l r) {x : Ent} (hx : x ∈ r) : x.count ≠ 0 := (h.ok x hx).real
theorem Like.len (h : Like n hn l r) : r.length < n := by have := h.tb.room; rw [h.cnt] at this; exact this
theorem Like.has (h : Like n hn l r) : (∃ f ∈ l, f.count ≠ 0 ∧ f.adr = a) ↔ ∃ f ∈ r, f.adr = a := by
  constructor
  · rintro ⟨f, hf, hc, ha⟩; exact ⟨f, (h.mem f hc).1 hf, ha⟩
  · rintro ⟨f, hf, ha⟩; exact ⟨f, (h.mem f (h.real hf)).2 hf, h.real hf, ha⟩
theorem Like.no (h : Like n hn l r) (h1 : ∀ f ∈ l, f.count ≠ 0 → f.adr ≠ a) : ∀ f ∈ r, f.adr ≠ a := fun f hf ha => h1 f ((h.mem f (h.real hf)).2 hf) (h.real hf) ha
theorem Like.ins (h : Like n hn l r) (hok : e.ok) (ht : Tb n hn l2) (hm : ∀ x : Ent, x.count ≠ 0 → (x ∈ l2 ↔ (x ∈ l ∧ x.adr ≠ e.adr) ∨ x = e)) (hc : cntT l2 = (putR r e).length) : Like n hn l2 (putR r e) := by
  refine ⟨ht, fun x hx => ?_, fun x hx => ?_, putR_dst e h.dst, hc⟩
  · rw [hm x hx, putR_mem, h.mem x hx]
  · rcases (putR_mem r e x).1 hx with ⟨h1, _⟩ | rfl
    · exact h.ok x h1
    · exact hok
theorem Like.put (h : Like n hn l r) (hp : PutP n hn l e c1 l2) (hr : RPutP r n e c2 r2) : c1 = c2 ∧ Like n hn l2 r2 := by
  rcases hp.what with ⟨p1, rfl, rfl⟩ | ⟨p1, p2, rfl, p3, p4⟩ | ⟨p1, p2, p3, rfl, rfl⟩ | ⟨p1, p2, p3, rfl, p4, p5⟩
  · rcases hr with ⟨_, rfl, rfl⟩ | ⟨q1, _⟩ | ⟨q1, _⟩ | ⟨q1, _⟩
    · exact ⟨rfl, h⟩
    · exact absurd q1 p1
    · exact absurd q1 p1
    · exact absurd q1 p1
  · have hx := h.has.1 p2
    rcases hr with ⟨q1, _⟩ | ⟨_, _, rfl, rfl⟩ | ⟨_, q2, _⟩ | ⟨_, q2, _⟩
    · exact absurd p1 q1
    · refine ⟨rfl, h.ins p1 hp.tb p4 ?_⟩
      rw [p3, h.cnt, putR_len, cnt_one h.dst hx]
    · obtain ⟨f, hf, ha⟩ := hx; exact absurd ha (q2 f hf)
    · obtain ⟨f, hf, ha⟩ := hx; exact absurd ha (q2 f hf)
  · have hx := h.no p2
    rcases hr with ⟨q1, _⟩ | ⟨_, ⟨f, hf, ha⟩, _⟩ | ⟨_, _, _, rfl, rfl⟩ | ⟨_, _, q2, _⟩
    · exact absurd p1 q1
    · exact absurd ha (hx f hf)
    · exact ⟨rfl, h⟩
    · rw [h.cnt] at p3; omega
  · have hx := h.no p2
    rcases hr with ⟨q1, _⟩ | ⟨_, ⟨f, hf, ha⟩, _⟩ | ⟨_, _, q2, _⟩ | ⟨_, _, _, rfl, rfl⟩
    · exact absurd p1 q1
    · exact absurd ha (hx f hf)
    · rw [h.cnt] at p3; omega
    · refine ⟨rfl, h.ins p1 hp.tb p5 ?_⟩
      rw [p4, h.cnt, putR_len, cnt_no hx]
theorem Like.new (n : Nat) (hn : 0 < n) : Like n hn (List.replicate n zeroEnt) [] :=
  ⟨Tb.new n hn, fun x hx => ⟨fun h => by rw [List.eq_of_mem_replicate h] at hx; exact absurd rfl hx, by simp⟩, by simp, List.Pairwise.nil, by simp [cntT, zeroEnt]⟩
end
/-- A row that does not lie in block g stays as it was when g alone is written. -/
theorem RowE.butG {w w' : World} {v : Value} {l : List Ent} {g : Nat} (h : RowE w v l) (hB : But [g] w.heap.size w w') (hne : v.ownBlock ≠ some g) : RowE w' v l := by
  obtain ⟨A, c, rfl, hc, hl⟩ := h
  refine ⟨A, c, rfl, hc, fun hx => ?_⟩
  obtain ⟨b, o, hA, hb, hcell⟩ := hl hx
  subst hA
  have hbg : b ≠ g := fun e => hne (by rw [e]; rfl)
  exact ⟨b, o, rfl, Nat.lt_of_lt_of_le hb hB.size, fun i v hi => (World.cell?_of_block (hB.block b hb (by simp only [List.mem_singleton]; exact hbg))).trans (hcell i v hi)⟩
/-- The entries of a table's places. -/
theorem Upto.like {n : Nat} {hn : 0 < n} {l o : List Ent} (h : Upto n l o l.length) (ht : Tb n hn l) : Like n hn l o := by
  have hm : ∀ x, x ∈ o ↔ (x ∈ l ∧ x.count ≠ 0) := fun x => by rw [h.mem x, List.take_of_length_le (Nat.le_refl _)]
  refine ⟨ht, fun x hx => ?_, h.ok, h.dst, by rw [h.cnt, List.take_of_length_le (Nat.le_refl _)]⟩
  rw [hm x]
  exact ⟨fun h => ⟨h, hx⟩, fun h => h.1⟩
theorem Like.tabOK {l o l' : List Ent} {hn : 0 < l.length} (h : Upto l.length l o l.length) (hk : Like l.length hn l' o) (he : l' = l) (h406 : l.length ≤ 406) : TabOK l :=
  ⟨hn, h406, he ▸ hk.tb, fun e hm hc => h.ok e ((h.mem e).2 ⟨by rw [List.take_of_length_le (Nat.le_refl _)]; exact hm, hc⟩)⟩
theorem Like.same {n : Nat} {hn : 0 < n} {l l' r : List Ent} (h : Like n hn l r) (h' : Like n hn l' r) : l = l' :=
  Tb.one h.tb h'.tb fun x hx => by rw [h.mem x hx, h'.mem x hx]

theorem Like.cast {n m : Nat} {hn : 0 < n} {l r : List Ent} (h : Like n hn l r) (e : n = m) (hm : 0 < m) : Like m hm l r := by subst e; exact h
end Go.Proofs.Ytiglffkbaddefaa
