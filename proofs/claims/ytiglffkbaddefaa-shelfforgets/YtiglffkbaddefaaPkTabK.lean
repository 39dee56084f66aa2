/-
  Layer 11: the contract of Drop.
  Layer 11: the contracts of New, of slices.Clone at entries, Places, Copy.
  Layer 11: the contracts of Get, Slot, Longest.
  Layer 11: the reference's less, right, Find, far, goes.
  Layer 11: the contract of the reference's Put.
  Layer 11: the contracts of the reference's Drop and lay.
  Layer 11: the contract of Of.
-/
import Derived.Test.YtiglffkbaddefaaPkTabF
import Derived.Test.YtiglffkbaddefaaPkClearS
import Derived.Test.YtiglffkbaddefaaPkTabH
import Derived.Test.YtiglffkbaddefaaPkTabQ
namespace Go.Proofs.Ytiglffkbaddefaa
open Go.RowKit
set_option linter.unusedVariables false
set_option linter.unusedSimpArgs false

/-- What Drop makes of a table, and what it answers. -/
structure DropP (n : Nat) (hn : 0 < n) (l : List Ent) (a : Adr) (code : Int) (l' : List Ent) : Prop where
  tb : Tb n hn l'
  what : ((∃ f ∈ l, f.count ≠ 0 ∧ f.adr = a) ∧ code = 0 ∧ cntT l' + 1 = cntT l ∧ ∀ x : Ent, x.count ≠ 0 → (x ∈ l' ↔ x ∈ l ∧ x.adr ≠ a)) ∨
    ((∀ f ∈ l, f.count ≠ 0 → f.adr ≠ a) ∧ code = 8 ∧ l' = l)
/-- A removal under way: a hole at p; z is empty. -/
structure Shut (n : Nat) (hn : 0 < n) (S : Ent → Prop) (c z : Nat) (l : List Ent) (p : Nat) : Prop where
  del : Del n hn S c l p
  none_ : layT l z = none
  ne : z ≠ p
section
variable {n : Nat} {hn : 0 < n} {S : Ent → Prop} {c z : Nat} {l : List Ent} {f : Ent} {p : Nat}
theorem Del.spare (h : Del n hn S c l p) : ∃ z, z < n ∧ layT l z = none ∧ z ≠ p := by
  have hp : p < l.length := by rw [h.len]; exact h.at_
  have c1 : (⟨zeroAdr, 0, 1⟩ : Ent).count ≠ 0 := by decide
  have hc := cntT_set (l := l.set p zeroEnt) (p := p) (d := zeroEnt) (by simp [hp]) ⟨zeroAdr, 0, 1⟩
  rw [List.set_set, if_neg c1, if_pos (show zeroEnt.count = 0 from rfl), h.cnt] at hc
  obtain ⟨z, hz, hzn⟩ := cntT_room (l := l.set p ⟨zeroAdr, 0, 1⟩) (by rw [List.length_set, h.len]; have := h.room; omega)
  rw [List.length_set, h.len] at hz
  rw [layT_set hp c1] at hzn
  have hne : z ≠ p := by rintro rfl; rw [putP_same] at hzn; cases hzn
  rw [putP_other _ _ hne] at hzn
  exact ⟨z, hz, hzn, hne⟩
theorem Shut.shift (h : Shut n hn S c z l p) (hf : l[nextP n p]? = some f) (cf : f.count ≠ 0) (hm : nextP n p ≠ (ruleT n hn).home f.adr) (hz : z < n) : Shut n hn S c z (l.set p f) (nextP n p) ∧ farF n (nextP n p) z + 1 = farF n p z := by
  refine ⟨⟨h.del.shift hf cf hm, ?_, ?_⟩, farF_toward h.del.at_ hz (fun e => h.ne e.symm)⟩
  · rw [layT_set (by rw [h.del.len]; exact h.del.at_) cf, putP_other _ _ h.ne]
    exact h.none_
  · rintro rfl
    have := h.none_
    rw [layT_at hf, if_neg cf] at this
    cases this
end
theorem zero_ent (w : World) : (zeroValue 32).run Try.prog w = .ok (.agg zeroEnt.cs.toArray) w := by kernel_rfl

set_option maxRecDepth 100000 in
set_option maxHeartbeats 8000000 in
theorem tdrop_any (w : World) (b g c n : Nat) (hn : 0 < n) (l : List Ent) (h : TabAt w b g c n l) (ht : Tb n hn l) (a : Adr) :
    Calls Try.prog 21 #[.pointer (some ⟨b, 0, none⟩), a.val] w fun r w' => ∃ code l', r = .returned (.int .i64 code) ∧ TabAt w' b g c n l' ∧ DropP n hn l a code l' ∧ But [g] w.heap.size w w' := by
  have hle := h.le
  have hcap := h.cap
  have hbl := h.blt
  have hgl := h.glt
  have Hh := Lib.hid h
  have Ht := Lib.hid ht
  have HszA := Lib.hid (adr_size a)
  clear h ht
  go_enter Try.func21, Try.ntmps21
  go_wp2_with ((with_reducible refine at_box 30 ?_); refine wpList_box_rowV rfl 30 _ rfl (cells a.1) rfl ?_)
  intro w1 hr1 hb1 hs1
  have hT1 := Hh.out.later hb1
  have q1 := Lib.hid (row_range hr1)
  go_wp2_with ((with_reducible refine at_load 30 ?_); refine wpList_load_mid rfl 30 _ rfl w.heap.size 0 rfl (cells a.1) _ q1.out Try.underlying30 rfl HszA.out ?_)
  refine (tfind_any w1 b g c n hn l hT1 Ht.out a).mono ?_
  rintro r w2 ⟨v, rfl, hf, hb2⟩
  have HT2 : Hid (TabAt w2 b g c n l) := hT1.later hb2
  have HB2 : Hid (Below w.heap.size w w2) := hb1.trans (hb2.mono (by omega))
  clear hr1 hb1 hs1 hT1 hb2 q1
  rcases hf with ⟨k, f, rfl, hk, hc, ha⟩ | ⟨rfl, hno⟩
  · have hkn : k < n := by have := (List.getElem?_eq_some_iff.1 hk).1; rw [HT2.out.len] at this; exact this
    obtain ⟨hdel, hpos⟩ := Ht.out.del hk hc
    obtain ⟨z, hz, hzn, hzk⟩ := hdel.spare
    have HS : Hid (Shut n hn (fun x => (x ∈ l ∧ x.count ≠ 0) ∧ x.adr ≠ f.adr) (cntT l - 1) z l k) := ⟨hdel, hzn, hzk⟩
    obtain ⟨S, hS⟩ : ∃ S, (fun x : Ent => (x ∈ l ∧ x.count ≠ 0) ∧ x.adr ≠ f.adr) = S := ⟨_, rfl⟩
    obtain ⟨m, hm⟩ : ∃ m, cntT l - 1 = m := ⟨_, rfl⟩
    rw [hS, hm] at HS
    have HFin : Hid (∀ l', Tb n hn l' → cntT l' = m → (∀ x : Ent, (x ∈ l' ∧ x.count ≠ 0) ↔ S x) → DropP n hn l a 0 l') := by
      intro l' h1 h2 h3
      refine ⟨h1, .inl ⟨⟨f, List.mem_of_getElem? hk, hc, ha⟩, rfl, by omega, fun x hx => ?_⟩⟩
      have h4 := h3 x
      rw [← hS] at h4
      rw [← ha]
      exact ⟨fun hi => ⟨(h4.1 ⟨hi, hx⟩).1.1, (h4.1 ⟨hi, hx⟩).2⟩, fun hi => (h4.2 ⟨⟨hi.1, hx⟩, hi.2⟩).1⟩
    have hnk := nextP_lt hkn
    have HBut : Hid (But [g] w.heap.size w w2) := But.of _ HB2.out
    clear hdel hpos hzn hzk hS hm hk hc ha HB2
    go_wp2_with fail
    refine (tafter_any _ b g c n l HT2.out k hkn).mono ?_
    rintro r w3 ⟨rfl, hw⟩
    rw [hw]
    clear hw w3
    obtain ⟨N, hN⟩ : ∃ N, w.heap.size = N := ⟨_, rfl⟩
    rw [hN] at HBut hbl hgl
    have hsz2 : N ≤ w2.heap.size := HBut.out.size |> fun h => by omega
    go_wp2_with fail
    go_loopw [5, 7] (fun s t W => ∃ (p : Nat) (l' : List Ent), p < n ∧ s = .int .i64 p ∧ t = .int .i64 ((nextP n p : Nat) : Int) ∧ Hid (Shut n hn S m z l' p) ∧ Hid (TabAt W b g c n l') ∧ Hid (But [g] N w W)) (fun s _ _ => farF n (intOf s).toNat z)
    case atStart => exact ⟨k, l, hkn, rfl, rfl, HS, HT2, HBut⟩
    case round =>
      obtain ⟨p, l', hp, rfl, rfl, HK, HT, HB⟩ := hrel
      clear HT2 HBut HS hsz2
      have hnp := nextP_lt hp
      obtain ⟨x, hx⟩ := HT.out.get hnp
      have Hx := Lib.hid hx
      have hszr : N ≤ wr.heap.size := by have := HB.out.size; omega
      clear hx
      go_wp2_with fail
      refine (tdisp_any wr b g c n hn l' HT.out (nextP n p) x Hx.out).mono ?_
      rintro r w3 ⟨rfl, hb3⟩
      have HT3 : Hid (TabAt w3 b g c n l') := HT.out.later hb3
      have HB3 : Hid (But [g] N w w3) := HB.out.trans (But.of _ (hb3.mono hszr))
      have hsz3 : N ≤ w3.heap.size := by have := hb3.size; omega
      clear hb3 HT HB hszr
      by_cases hd : x.count ≠ 0 ∧ nextP n p ≠ (ruleT n hn).home x.adr
      · rw [decide_eq_true hd]
        have H12 := HK.out.shift Hx.out hd.1 hd.2 hz
        have H1 := Lib.hid H12.1
        have H2 := Lib.hid H12.2
        clear hd H12
        obtain ⟨q, hq⟩ : ∃ q, nextP n p = q := ⟨_, rfl⟩
        rw [hq] at hnp H1 H2 Hx ⊢
        have Hq := Lib.hid hq
        clear hq
        have hp' : (p : Int) < (n : Int) := by omega
        have hq' : (q : Int) < (n : Int) := by omega
        have c0 := HT3.out.ptr.cell
        have HTd : Hid (TabAt w3.drew b g c n l') := HT3.out.drew
        have HBd : Hid (But [g] N w w3.drew) := HB3.out.drew
        have hszd : N ≤ w3.drew.heap.size := hsz3
        have qF : Hid (w3.drew.rangeAt g (q * 34) x.cs) := ent_range HTd.out.row Hx.out
        have Hsf := Lib.hid (ent_size x)
        clear HT3 HB3 hsz3
        go_wp2_with fail
        refine wp_region_still_tail 13 (by kernel_rfl) (by kernel_rfl) ?_
        simp only [List.take_succ_cons, List.take_zero, List.drop_succ_cons, List.drop_zero]
        iterate 11 still_step
        refine wpStill_exec (.agg x.cs.toArray) rfl (by refine exec_load_mid 32 (.tmp 35) ?_ g (q * 34) ?_ x.cs _ qF.out Try.underlying32 rfl Hsf.out <;> rfl) ?_
        try simp only [Act.put, List.setIfInBounds_toArray, List.set_cons_zero, List.set_cons_succ]
        still_step
        refine wpStill_nil ?_
        change wpList _ _ _ _ _ w3.drew
        have hthere := HTd.out.there hp
        have Hset := Lib.hid (HTd.out.set hp x)
        generalize w3.drew = wd at *
        have HT4 := Lib.hid Hset.out.1
        have HB4 : Hid (But [g] N w (wd.setCells g (p * 34) x.cs)) := HBd.out.grown Hset.out.2 (fun k e => by injection e with e; left; simp [e]) hszd
        go_wp2_with ((with_reducible refine at_store 32 ?_); refine wpList_store_midV rfl 32 _ _ rfl g (p * 34) x.cs rfl rfl (by rw [List.size_toArray, Ent.cs_length]; exact hthere) (by rw [List.size_toArray]; exact ent_size _) (all_oneCell_toArray (Ent.one _)) ?_; intro w4 hw4; subst hw4)
        refine (tafter_any _ b g c n _ HT4.out q hnp).mono ?_
        rintro r w5 ⟨rfl, rfl⟩
        go_wp2_with fail
        go_roundw
        case rel => exact ⟨q, l'.set p x, hnp, rfl, rfl, H1, HT4, HB4⟩
        case measure =>
          have := H2.out
          simp [intOf]
          omega
      · rw [decide_eq_false hd]
        have hcl : x.count = 0 ∨ nextP n p = (ruleT n hn).home x.adr := by
          by_cases h0 : x.count = 0
          · exact .inl h0
          · exact .inr (Classical.byContradiction fun h1 => hd ⟨h0, h1⟩)
        have H3 := HK.out.del.close Hx.out hcl
        have HD := Lib.hid (HFin.out _ H3.1 H3.2.1 H3.2.2)
        have c0 := HT3.out.ptr.cell
        have hp' : (p : Int) < (n : Int) := by omega
        have hthere := HT3.out.there hp
        have Hset := Lib.hid (HT3.out.set hp zeroEnt)
        have hclr : ∀ ty cc, (Builtin.clear_ #[22] ty #[.slice (some ⟨g, p * 34, none⟩) 1 cc]).run Try.prog w3 = .ok (.tuple #[]) (w3.setCells g (p * 34) zeroEnt.cs) := fun ty cc =>
          run_clear_row w3 22 32 ty _ zeroEnt.cs Try.underlying22 zero_ent rfl (Ent.one _) g (p * 34) cc (by rw [Ent.cs_length]; exact hthere)
        clear hd hcl H3
        go_wp2_with fail
        go_ret
        refine ⟨0, _, rfl, Hset.out.1, HD.out, ?_⟩
        rw [hN]
        exact HB3.out.grown Hset.out.2 (fun k e => by injection e with e; left; simp [e]) hsz3
  · have HD : Hid (DropP n hn l a 8 l) := ⟨Ht.out, .inr ⟨hno, rfl, rfl⟩⟩
    clear hno
    go_wp2_with fail
    go_ret
    exact ⟨8, l, rfl, HT2.out, HD.out, But.of _ HB2.out⟩
end Go.Proofs.Ytiglffkbaddefaa
namespace Go.Proofs.Ytiglffkbaddefaa
open Go.RowKit
set_option linter.unusedVariables false
set_option linter.unusedSimpArgs false

theorem zero_ents (n : Nat) : (madeCells zeroEnt.cs.toArray (n * 34)).toList = ents (List.replicate n zeroEnt) := by
  have h := made_list zeroEnt.cs.toArray (by decide) n
  rw [show zeroEnt.cs.toArray.size = 34 by rfl] at h
  rw [h]
  simp [ents, List.flatMap]
/-- New: a table, or none. -/
def New11V (w w' : World) (n : Int) (e : Ending) : Prop :=
  if 1 ≤ n ∧ n ≤ 406 then ∃ b g, e = .returned (.tuple #[.pointer (some ⟨b, 0, none⟩), .int .i64 0]) ∧ TabAt w' b g n.toNat n.toNat (List.replicate n.toNat zeroEnt) ∧ w.heap.size ≤ b ∧ w.heap.size ≤ g ∧ Below w.heap.size w w'
  else e = .returned (.tuple #[.pointer none, .int .i64 2]) ∧ w' = w

set_option maxRecDepth 100000 in
set_option maxHeartbeats 1000000 in
theorem tnew_any (w : World) (n : Int) : Calls Try.prog 7 #[.int .i64 n] w fun e w' => New11V w w' n e := by
  obtain ⟨i0, hi, hz0, hz1, hz2⟩ := info_parts Try.infoE
  unfold New11V
  by_cases h : 1 ≤ n ∧ n ≤ 406
  · obtain ⟨h1, h2⟩ := h
    obtain ⟨k, rfl⟩ : ∃ k : Nat, n = k := ⟨n.toNat, by omega⟩
    have hc : (1 ≤ (k : Int) ∧ (k : Int) ≤ 406) = True := eq_true ⟨h1, h2⟩
    simp only [hc, if_true, Int.toNat_natCast]
    clear hc
    go_enter Try.func7, Try.ntmps7
    go_wp2_with (at_make; refine wpList_make_full _ rfl _ _ 22 rfl w.heap.size 32 i0 (.agg zeroEnt.cs.toArray) 34 Try.underlying22 hi hz0 hz1 .i64 .i64 _ _ k rfl rfl rfl rfl (by rw [hz2]; omega) (by unfold maxLen; omega) (Nat.le_refl _) ?_)
    intro w1 hown hg1
    rw [zero_ents] at hown
    have hb1 : Below w.heap.size w w1 := (Below.refl _ _).grown hg1 (Nat.le_refl _) (by simp)
    go_wp2_with fail
    go_ret2
    have hp : One (w1.alloc (.cells #[.slice (some ⟨w.heap.size, 0, none⟩) k k] 59)) w1.heap.size (.slice (some ⟨w.heap.size, 0, none⟩) k k) 59 := One.new w1 _ _
    have hr := own_rebase (base' := 0) (hown.alloc (.cells #[.slice (some ⟨w.heap.size, 0, none⟩) k k] 59)) (fun _ _ => Nat.zero_le _)
    exact ⟨w1.heap.size, w.heap.size, rfl, ⟨hp, hr, List.length_replicate .., by omega, by omega⟩, hb1.size, Nat.le_refl _, hb1.alloc hb1.size _⟩
  · simp only [if_neg h]
    go_enter Try.func7, Try.ntmps7
    go_wp2_with fail
    all_goals
      go_ret2
      exact ⟨rfl, rfl⟩

set_option maxRecDepth 100000 in
set_option maxHeartbeats 1000000 in
theorem clone_ent (w : World) (g n c : Nat) (l : List Ent) (h : w.ownsRow 0 32 34 (.slice (some ⟨g, 0, none⟩) n c) n (ents l)) (hn : n ≤ 406) :
    Calls Try.prog 37 #[.slice (some ⟨g, 0, none⟩) n c] w fun e w' => ∃ A' c', e = .returned (.slice A' n c') ∧ w'.ownsRow w.heap.size 32 34 (.slice A' n c') n (ents l) ∧ Below w.heap.size w w' := by
  obtain ⟨i0, hi, hz0, hz1, hz2⟩ := info_parts Try.infoE
  have hg := own_lt h rfl
  have hown : (w.alloc (.cells #[] 32)).ownsRow w.heap.size 32 34 (.slice (some ⟨w.heap.size, 0, none⟩) 0 0) 0 (ents []) := World.ownsRow_lit w #[] 0 (Nat.le_refl _) (by unfold maxLen; omega) rfl
  have h1 := h.alloc (.cells #[] 32)
  have hb1 : Below w.heap.size w (w.alloc (.cells #[] 32)) := (Below.refl _ _).alloc (Nat.le_refl _) _
  have hs1 := hb1.size
  have hq := fun W => eql_slice_nil (P := Try.prog) W (some ⟨g, 0, none⟩) n c Try.underlying22
  clear h
  go_enter Try.func37, Try.ntmps37
  go_wp2_with (at_builtin; refine wpList_append_rows rfl _ _ 22 rfl w.heap.size 32 Try.underlying22 Try.infoE rfl (by decide) _ 0 [] rfl hown _ 0 n (ents l) rfl h1 (ents_one _) (by unfold maxLen; omega) (by omega) hs1 ?_)
  intro v' w2 hown2 hg2 _
  obtain ⟨A', c', rfl, _, _⟩ := own_slice hown2
  go_wp2_with fail
  go_ret
  exact ⟨A', c', rfl, hown2, hb1.grown hg2 hs1 (own_ge hown)⟩

set_option maxRecDepth 100000 in
set_option maxHeartbeats 1000000 in
theorem tplaces_any (w : World) (b g c n : Nat) (l : List Ent) (h : TabAt w b g c n l) :
    Calls Try.prog 17 #[.pointer (some ⟨b, 0, none⟩)] w fun e w' => ∃ A' c', e = .returned (.slice A' n c') ∧ w'.ownsRow w.heap.size 32 34 (.slice A' n c') n (ents l) ∧ Below w.heap.size w w' := by
  have c0 := h.ptr.cell
  have Hh := Lib.hid h
  clear h
  go_enter Try.func17, Try.ntmps17
  go_wp2_with fail
  refine (clone_ent w g n c l Hh.out.row Hh.out.le).mono ?_
  rintro e w1 ⟨A', c', rfl, hr1, hb1⟩
  have HR1 := Lib.hid hr1
  clear hr1
  go_wp2_with fail
  go_ret
  exact ⟨A', c', rfl, HR1.out, hb1⟩
end Go.Proofs.Ytiglffkbaddefaa
namespace Go.Proofs.Ytiglffkbaddefaa
open Go.RowKit
set_option linter.unusedVariables false
set_option linter.unusedSimpArgs false

theorem Try.zeroEnt11 : (Try.prog.info? 32).bind (·.zero) = some (.agg zeroEnt.cs.toArray) := by kernel_rfl
theorem Try.builtE0 : Try.prog.built 32 [] = some zeroEnt.cs.toArray := by kernel_rfl
theorem build_ent0 (w : World) : (Instr.build 32 #[]).run Try.prog w = .ok (.agg zeroEnt.cs.toArray) w := run_build w _ _ _ Try.builtE0
/-- What a look answers: the entry and true, or the zero entry and false. -/
def entV (e : Ent) (ok : Bool) : Ending := .returned (.tuple #[e.val, .bool ok])
def GetP (l : List Ent) (a : Adr) (r : Ending) : Prop := (∃ e ∈ l, e.count ≠ 0 ∧ e.adr = a ∧ r = entV e true) ∨ ((∀ e ∈ l, e.count ≠ 0 → e.adr ≠ a) ∧ r = entV zeroEnt false)

set_option maxRecDepth 100000 in
set_option maxHeartbeats 4000000 in
theorem tget_any (w : World) (b g c n : Nat) (hn : 0 < n) (l : List Ent) (h : TabAt w b g c n l) (ht : Tb n hn l) (a : Adr) :
    Calls Try.prog 20 #[.pointer (some ⟨b, 0, none⟩), a.val] w fun r w' => GetP l a r ∧ Below w.heap.size w w' := by
  have hle := h.le
  have hcap := h.cap
  have Hh := Lib.hid h
  have Ht := Lib.hid ht
  have HszA := Lib.hid (adr_size a)
  have hz := build_ent0
  clear h ht
  go_enter Try.func20, Try.ntmps20
  go_wp2_with ((with_reducible refine at_box 30 ?_); refine wpList_box_rowV rfl 30 _ rfl (cells a.1) rfl ?_)
  intro w1 hr1 hb1 hs1
  go_wp2_with ((with_reducible refine at_alloc 32 ?_); refine wpList_alloc_rowV rfl 32 rfl zeroEnt.cs Try.zeroEnt11 ?_)
  intro w2 hr2 hb2 hs2
  have hB2 : Below w.heap.size w w2 := hb1.trans (hb2.mono (by omega))
  have hT2 := Hh.out.later hB2
  have q1 := Lib.hid (row_range (hr1.below (by omega) hb2))
  have hs2' : w2.heap.size = w.heap.size + 2 := by omega
  clear hr1 hb1 hs1 hb2 hs2
  obtain ⟨N, hN⟩ : ∃ N, w.heap.size = N := ⟨_, rfl⟩
  rw [hN] at hr2 hB2 q1 hs2' ⊢
  go_wp2_with ((with_reducible refine at_load 30 ?_); refine wpList_load_mid rfl 30 _ rfl N 0 rfl (cells a.1) _ q1.out Try.underlying30 rfl HszA.out ?_)
  refine (tfind_any w2 b g c n hn l hT2 Ht.out a).mono ?_
  rintro r w3 ⟨v, rfl, hf, hb3⟩
  have HR3 : Hid (RowV w3 (N + 1) 32 zeroEnt.cs) := hr2.below (by omega) hb3
  have HT3 : Hid (TabAt w3 b g c n l) := hT2.later hb3
  have hB3 : Below N w w3 := hB2.trans (hb3.mono (by omega))
  clear hr2 hT2 hB2 hb3 q1 hs2'
  rcases hf with ⟨k, f, rfl, hk, hc, ha⟩ | ⟨rfl, hno⟩
  · have hkn : k < n := by have := (List.getElem?_eq_some_iff.1 hk).1; rw [HT3.out.len] at this; exact this
    have hk' : (k : Int) < (n : Int) := by omega
    have hk0 : (0 : Int) ≤ (k : Int) := by omega
    have c0 := HT3.out.ptr.cell
    have qF : Hid (w3.rangeAt g (k * 34) f.cs) := ent_range HT3.out.row hk
    have Hsf := Lib.hid (ent_size f)
    have Hp : Hid (GetP l a (entV f true)) := .inl ⟨f, List.mem_of_getElem? hk, hc, ha, rfl⟩
    clear hk hc ha
    go_wp2_with (first
      | ((with_reducible refine at_load 32 ?_); refine wpList_load_mid rfl 32 _ rfl g (k * 34) rfl f.cs _ qF.out Try.underlying32 rfl Hsf.out ?_)
      | ((with_reducible refine at_store 32 ?_); refine wpList_store_rowV rfl 32 _ _ rfl (N + 1) f.cs rfl rfl 32 zeroEnt.cs HR3.out (by rw [List.size_toArray]; exact ent_size _) (by rw [List.size_toArray, List.size_toArray, Ent.cs_length, Ent.cs_length]) (all_oneCell_toArray (Ent.one _)) ?_; intro w4 hr4 hg4 hs4))
    refine bodyPost_ret (results_cell_tmp (fn := Try.f20) rfl _ _ (N + 1) 32 _ (0, 0) _ rfl (.bool true) rfl hr4 Try.underlying32 rfl (by rw [List.size_toArray]; exact ent_size _)) rfl ⟨Hp.out, ?_⟩
    rw [hN]
    exact below_grown hB3 hg4 (by omega) (by have := hB3.size; omega)
  · have Hp : Hid (GetP l a (entV zeroEnt false)) := .inr ⟨hno, rfl⟩
    clear hno
    go_wp2_with ((with_reducible refine at_store 32 ?_); refine wpList_store_rowV rfl 32 _ _ rfl (N + 1) zeroEnt.cs rfl rfl 32 zeroEnt.cs HR3.out (by rw [List.size_toArray]; exact ent_size _) rfl (all_oneCell_toArray (Ent.one _)) ?_; intro w4 hr4 hg4 hs4)
    refine bodyPost_ret (results_cell_tmp (fn := Try.f20) rfl _ _ (N + 1) 32 _ (0, 0) _ rfl (.bool false) rfl hr4 Try.underlying32 rfl (by rw [List.size_toArray]; exact ent_size _)) rfl ⟨Hp.out, ?_⟩
    rw [hN]
    exact below_grown hB3 hg4 (by omega) (by have := hB3.size; omega)
end Go.Proofs.Ytiglffkbaddefaa
namespace Go.Proofs.Ytiglffkbaddefaa
open Go.RowKit
set_option linter.unusedVariables false
set_option linter.unusedSimpArgs false

set_option maxRecDepth 100000 in
set_option maxHeartbeats 1000000 in
theorem rright11_any (w : World) (e : Ent) : Calls Try.prog 22 #[e.val] w fun r w' => r = .returned (.bool (decide e.ok)) ∧ Below w.heap.size w w' := by
  obtain ⟨a, s, c⟩ := e
  have Hok : ∀ b : Bool, (decide (1 ≤ c) && decide (c ≤ 1099511627776) && decide (0 ≤ s) && decide (s < 200)) = b → decide (Ent.ok ⟨a, s, c⟩) = b := by
    intro b h
    rw [← h, Bool.eq_iff_iff]
    simp only [Bool.and_eq_true, decide_eq_true_eq (p := Ent.ok _), decide_eq_true_eq, and_assoc]
    exact Iff.rfl
  go_enter Try.func22, Try.ntmps22
  go_wp2_with ((with_reducible refine at_box 32 ?_); refine wpList_box_rowV rfl 32 _ rfl (Ent.cs ⟨a, s, c⟩) rfl ?_)
  intro w1 hr1 hb1 hs1
  have c1 := hr1.cell (Ent.get_slot ⟨a, s, c⟩)
  have c2 := hr1.cell (Ent.get_count ⟨a, s, c⟩)
  simp only at c1 c2
  by_cases h1 : 1 ≤ c
  · by_cases h2 : c ≤ 1099511627776
    · by_cases h3 : 0 ≤ s
      · have g1 : decide (1 ≤ c) = true := decide_eq_true h1
        have g2 : decide (c ≤ 1099511627776) = true := decide_eq_true h2
        have g3 : decide (0 ≤ s) = true := decide_eq_true h3
        have Hb := Lib.hid (Hok (decide (s < 200)) (by simp [g1, g2, g3]))
        clear Hok
        go_wp2_with fail
        all_goals
          go_ret
          exact ⟨by rw [Hb.out]; rfl, hb1⟩
      · have g1 : decide (1 ≤ c) = true := decide_eq_true h1
        have g2 : decide (c ≤ 1099511627776) = true := decide_eq_true h2
        have g3 : decide (0 ≤ s) = false := decide_eq_false h3
        have Hb := Lib.hid (Hok false (by simp [g3]))
        clear Hok
        go_wp2_with fail
        all_goals
          go_ret
          exact ⟨by rw [Hb.out]; rfl, hb1⟩
    · have g1 : decide (1 ≤ c) = true := decide_eq_true h1
      have g2 : decide (c ≤ 1099511627776) = false := decide_eq_false h2
      have Hb := Lib.hid (Hok false (by simp [g2]))
      clear Hok
      go_wp2_with fail
      all_goals
        go_ret
        exact ⟨by rw [Hb.out]; rfl, hb1⟩
  · have g1 : decide (1 ≤ c) = false := decide_eq_false h1
    have Hb := Lib.hid (Hok false (by simp [g1]))
    clear Hok
    go_wp2_with fail
    all_goals
      go_ret
      exact ⟨by rw [Hb.out]; rfl, hb1⟩

set_option maxRecDepth 100000 in
set_option maxHeartbeats 4000000 in
theorem rless_any (a b : List UInt8) (ha : a.length = 32) (hb : b.length = 32) (w : World) : Calls Try.prog 24 #[.agg (cells a).toArray, .agg (cells b).toArray] w fun e w' => e = .returned (.bool (Op.bytesLess a b)) ∧ Below w.heap.size w w' := by
  have Ha := Lib.hid ha
  have Hb := Lib.hid hb
  clear ha hb
  go_enter Try.func24, Try.ntmps24
  go_wp2_with (with_reducible refine at_box 30 ?_; refine wpList_box_rowV rfl 30 _ rfl (cells a) rfl ?_)
  intro w1 hr1 hb1 hs1
  refine wpList_box_rowV rfl 30 _ rfl (cells b) rfl ?_
  intro w2 hr2 hb2 hs2
  rw [hs1] at hr2 hb2 ⊢
  have HR1 : Hid (RowV w2 w.heap.size 30 (cells a)) := hr1.below (by omega) hb2
  have HR2 := Lib.hid hr2
  have HB2 : Hid (Below w.heap.size w w2) := hb1.trans (hb2.mono (by omega))
  clear hr1 hb1 hb2 hs2 hr2 hs1
  obtain ⟨N, hN⟩ : ∃ N, w.heap.size = N := ⟨_, rfl⟩
  rw [hN] at HR1 HR2 HB2 ⊢
  go_wp2_with fail
  have hlA : Try.prog.arrayLen 30 = 32 := by kernel_rfl
  go_loopw [5] (fun v W => ∃ k : Nat, k ≤ 32 ∧ v = .int .i64 k ∧ Hid (Op.bytesLess a b = Op.bytesLess (a.drop k) (b.drop k)) ∧ Hid (RowV W N 30 (cells a)) ∧ Hid (RowV W (N + 1) 30 (cells b)) ∧ Hid (Below N w W)) (fun v _ => 32 - (intOf v).toNat)
  case atStart => exact ⟨0, by omega, rfl, rfl, HR1, HR2, HB2⟩
  case round =>
    obtain ⟨k, hk, rfl, HK, HA, HB, HW⟩ := hrel
    clear HR1 HR2 HB2
    by_cases hlt : k < 32
    · obtain ⟨x, hx⟩ : ∃ x, a[k]? = some x := ⟨_, List.getElem?_eq_getElem (by rw [Ha.out]; exact hlt)⟩
      obtain ⟨y, hy⟩ : ∃ y, b[k]? = some y := ⟨_, List.getElem?_eq_getElem (by rw [Hb.out]; exact hlt)⟩
      have cx : wr.drew.cell? ⟨N, k, none⟩ = _ := HA.out.drew.cell (cells_get hx)
      have cy : wr.drew.cell? ⟨N + 1, k, none⟩ = _ := HB.out.drew.cell (cells_get hy)
      have HK1 : Hid (Op.bytesLess a b = (decide (x < y) || (x == y && Op.bytesLess (a.drop (k + 1)) (b.drop (k + 1))))) := by
        show _ = _
        obtain ⟨a1, a2⟩ := List.getElem?_eq_some_iff.1 hx
        obtain ⟨b1, b2⟩ := List.getElem?_eq_some_iff.1 hy
        rw [HK.out, List.drop_eq_getElem_cons a1, List.drop_eq_getElem_cons b1, a2, b2]
        rfl
      have hxl := x.toNat_lt
      have hyl := y.toNat_lt
      have hk32 : (k : Int) < 32 := by omega
      have hk0 : (0 : Int) ≤ (k : Int) := by omega
      clear hx hy
      go_wp2_with fail
      refine wp_region_still_lit (by kernel_rfl) (by kernel_rfl) ?_
      iterate 7 still_step
      refine wpStill_nil ?_
      change Exit.then _ _ _ _ wr.drew
      have HAd : Hid (RowV wr.drew N 30 (cells a)) := HA.out.drew
      have HBd : Hid (RowV wr.drew (N + 1) 30 (cells b)) := HB.out.drew
      have HWd : Hid (Below N w wr.drew) := HW.out.drew
      clear HA HB HW
      generalize wr.drew = wd at *
      by_cases hxy : x = y
      · have hd : ((x.toNat : Int) == (y.toNat : Int)) = true := by rw [beq_iff_eq, hxy]
        have HK2 : Hid (Op.bytesLess a b = Op.bytesLess (a.drop (k + 1)) (b.drop (k + 1))) := by
          show _ = _
          rw [HK1.out, hxy]
          have : ¬ y < y := UInt8.lt_irrefl _
          simp [this]
        clear cx cy HK1
        go_wp2_with fail
        go_roundw
        case rel => exact ⟨k + 1, by omega, by go_num, HK2, HAd, HBd, HWd⟩
        case measure => simp [intOf]; omega
      · have hne : x.toNat ≠ y.toNat := fun e => hxy (UInt8.toNat_inj.1 e)
        have hd : ((x.toNat : Int) == (y.toNat : Int)) = false := by rw [beq_eq_false_iff_ne]; omega
        have HK2 : Hid (Op.bytesLess a b = decide (x.toNat < y.toNat)) := by
          show _ = _
          rw [HK1.out]
          have h1 : (x == y) = false := by rw [beq_eq_false_iff_ne]; exact hxy
          rw [h1, Bool.false_and, Bool.or_false, decide_eq_decide]
          exact UInt8.lt_iff_toNat_lt
        have cx2 : wd.drew.cell? ⟨N, k, none⟩ = _ := cx
        have cy2 : wd.drew.cell? ⟨N + 1, k, none⟩ = _ := cy
        go_wp2_with fail
        refine wp_region_still_tail 7 (by kernel_rfl) (by kernel_rfl) ?_
        simp only [List.take_succ_cons, List.take_zero, List.drop_succ_cons, List.drop_zero]
        iterate 7 still_step
        refine wpStill_nil ?_
        change wpList _ _ _ _ _ wd.drew
        go_wp2_with fail
        go_ret
        exact ⟨by rw [HK2.out]; rfl, by rw [hN]; exact HWd.out.drew⟩
    · obtain rfl : k = 32 := by omega
      have HK2 : Hid (Op.bytesLess a b = false) := by
        show _ = _
        rw [HK.out, List.drop_eq_nil_of_le (by rw [Ha.out]; exact Nat.le_refl _), List.drop_eq_nil_of_le (by rw [Hb.out]; exact Nat.le_refl _)]
        rfl
      have hd32 : decide (((32 : Nat) : Int) < 32) = false := by decide
      go_wp2_with fail
      go_ret
      exact ⟨by rw [HK2.out]; rfl, by rw [hN]; exact HW.out⟩

set_option maxRecDepth 100000 in
set_option maxHeartbeats 1000000 in
theorem rfar_any (w : World) (n : Nat) (hn : 0 < n) (hle : n ≤ 1000) (a : Adr) (p : Nat) (hp : p < n) :
    Calls Try.prog 58 #[a.val, .int .i64 (p : Int), .int .i64 (n : Int)] w fun r w' => r = .returned (.int .i64 (((ruleT n hn).far a p : Nat) : Int)) ∧ Below w.heap.size w w' := by
  have Hsz := Lib.hid (adr_size a)
  have Hr := Lib.hid (home_rule n hn a)
  go_enter Try.func58, Try.ntmps58
  go_wp2_with (with_reducible refine at_box 30 ?_; refine wpList_box_rowV rfl 30 _ rfl (cells a.1) rfl ?_)
  intro w1 hr1 hb1 hs1
  have Q := Lib.hid (row_range hr1)
  go_wp2_with ((with_reducible refine at_load 30 ?_); refine wpList_load_mid rfl 30 _ rfl w.heap.size 0 rfl (cells a.1) _ Q.out Try.underlying30 rfl Hsz.out ?_)
  refine (rhome_any a.1 a.2 (n : Int) w1 (by omega)).mono ?_
  rintro e w2 ⟨rfl, hb2⟩
  rw [Hr.out]
  have hh : (ruleT n hn).home a < n := (ruleT n hn).home_lt a
  have Hf : Hid ((ruleT n hn).far a p = if (ruleT n hn).home a ≤ p then p - (ruleT n hn).home a else p + n - (ruleT n hn).home a) := rfl
  have HB : Hid (Below w.heap.size w w2) := hb1.trans (hb2.mono (by omega))
  clear hr1 hb1 hb2 Q hs1 Hr
  generalize (ruleT n hn).home a = q at *
  by_cases hq : q ≤ p
  · have hd : decide ((p : Int) ≥ (q : Int)) = true := decide_eq_true (by omega)
    have hd' : decide ((q : Int) ≤ (p : Int)) = true := decide_eq_true (by omega)
    rw [if_pos hq] at Hf
    go_wp2_with fail
    go_ret
    refine ⟨?_, HB.out⟩
    rw [Hf.out, Int.ofNat_sub hq]
    rfl
  · have hd : decide ((p : Int) ≥ (q : Int)) = false := decide_eq_false (by omega)
    have hd' : decide ((q : Int) ≤ (p : Int)) = false := decide_eq_false (by omega)
    rw [if_neg hq] at Hf
    go_wp2_with fail
    go_ret
    refine ⟨?_, HB.out⟩
    rw [Hf.out, Int.ofNat_sub (by omega), Int.natCast_add]
    rfl

set_option maxRecDepth 100000 in
set_option maxHeartbeats 4000000 in
theorem rgoes_any (w : World) (n : Nat) (hn : 0 < n) (hle : n ≤ 1000) (a b : Adr) (p : Nat) (hp : p < n) :
    Calls Try.prog 46 #[a.val, b.val, .int .i64 (p : Int), .int .i64 (n : Int)] w fun r w' => r = .returned (.bool (goesB n hn a b p)) ∧ Below w.heap.size w w' := by
  have HszA := Lib.hid (adr_size a)
  have HszB := Lib.hid (adr_size b)
  go_enter Try.func46, Try.ntmps46
  go_wp2_with (with_reducible refine at_box 30 ?_; refine wpList_box_rowV rfl 30 _ rfl (cells a.1) rfl ?_)
  intro w1 hr1 hb1 hs1
  refine wpList_box_rowV rfl 30 _ rfl (cells b.1) rfl ?_
  intro w2 hr2 hb2 hs2
  rw [hs1] at hr2 hb2 ⊢
  have hr1' := hr1.below (by omega) hb2
  have hB2 : Below w.heap.size w w2 := hb1.trans (hb2.mono (by omega))
  obtain ⟨N, hN⟩ : ∃ N, w.heap.size = N := ⟨_, rfl⟩
  have hs2' : w2.heap.size = N + 2 := by omega
  rw [hN] at hr2 hr1' hB2 ⊢
  clear hr1 hb1 hb2 hs1 hs2
  have q1 := Lib.hid (row_range hr1')
  go_wp2_with ((with_reducible refine at_load 30 ?_); refine wpList_load_mid rfl 30 _ rfl N 0 rfl (cells a.1) _ q1.out Try.underlying30 rfl HszA.out ?_)
  refine (rfar_any w2 n hn hle a p hp).mono ?_
  rintro e w3 ⟨rfl, hb3⟩
  have ha3 : RowV w3 N 30 (cells a.1) := hr1'.below (by omega) hb3
  have hb3' : RowV w3 (N + 1) 30 (cells b.1) := hr2.below (by omega) hb3
  have hB3 : Below N w w3 := hB2.trans (hb3.mono (by omega))
  have hs3 : N + 2 ≤ w3.heap.size := by have := hb3.size; omega
  clear hr1' hr2 hb3 hB2 hs2' q1
  have q2 := Lib.hid (row_range hb3')
  go_wp2_with ((with_reducible refine at_load 30 ?_); refine wpList_load_mid rfl 30 _ rfl (N + 1) 0 rfl (cells b.1) _ q2.out Try.underlying30 rfl HszB.out ?_)
  refine (rfar_any w3 n hn hle b p hp).mono ?_
  rintro e w4 ⟨rfl, hb4⟩
  have HA := Lib.hid (row_range (ha3.below (by omega) hb4))
  have HB := Lib.hid (row_range (hb3'.below (by omega) hb4))
  have HB4 : Hid (Below N w w4) := hB3.trans (hb4.mono (by omega))
  have hs4 : N ≤ w4.heap.size := by have := hb4.size; omega
  have Hg : Hid (goesB n hn a b p = (decide ((ruleT n hn).far b p < (ruleT n hn).far a p) || (decide ((ruleT n hn).far b p = (ruleT n hn).far a p) && Op.bytesLess a.1 b.1))) := rfl
  clear ha3 hb3' hb4 hB3 hs3 q2
  generalize (ruleT n hn).far b p = y at *
  generalize (ruleT n hn).far a p = x at *
  by_cases h1 : y < x
  · have hd : decide ((x : Int) > (y : Int)) = true := decide_eq_true (by omega)
    have hd' : decide ((y : Int) < (x : Int)) = true := decide_eq_true (by omega)
    rw [decide_eq_true h1] at Hg
    go_wp2_with fail
    go_ret
    exact ⟨by rw [Hg.out]; rfl, by rw [hN]; exact HB4.out⟩
  · have hd : decide ((x : Int) > (y : Int)) = false := decide_eq_false (by omega)
    have hd' : decide ((y : Int) < (x : Int)) = false := decide_eq_false (by omega)
    rw [decide_eq_false h1] at Hg
    by_cases h2 : y = x
    · have hd2 : ((x : Int) == (y : Int)) = true := by rw [beq_iff_eq]; omega
      rw [decide_eq_true h2] at Hg
      go_wp2_with (first
        | ((with_reducible refine at_loadGR 30 ?_); refine wpList_load_midG rfl 30 _ rfl N 0 rfl (cells a.1) _ HA.out Try.underlying30 rfl HszA.out ?_)
        | ((with_reducible refine at_loadGR 30 ?_); refine wpList_load_midG rfl 30 _ rfl (N + 1) 0 rfl (cells b.1) _ HB.out Try.underlying30 rfl HszB.out ?_))
      refine (rless_any a.1 b.1 a.2 b.2 w4).mono ?_
      rintro r w5 ⟨rfl, hb5⟩
      go_wp2_with fail
      go_ret
      exact ⟨by rw [Hg.out]; rfl, by rw [hN]; exact HB4.out.trans (hb5.mono hs4)⟩
    · have hd2 : ((x : Int) == (y : Int)) = false := by rw [beq_eq_false_iff_ne]; omega
      rw [decide_eq_false h2] at Hg
      go_wp2_with fail
      go_ret
      exact ⟨by rw [Hg.out]; rfl, by rw [hN]; exact HB4.out⟩

/-- Where an address stands in a list. -/
def FindP (l : List Ent) (a : Adr) (r : Int) : Prop := (∃ (k : Nat) (e : Ent), r = k ∧ l[k]? = some e ∧ e.adr = a) ∨ (r = -1 ∧ ∀ e ∈ l, e.adr ≠ a)

set_option maxRecDepth 100000 in
set_option maxHeartbeats 4000000 in
theorem rfind_any (w : World) (B n c : Nat) (A : Option Addr) (l : List Ent) (a : Adr) (h : LiesV w B A (ents l)) (hn : n = l.length) (hB : B ≤ w.heap.size) (hle : n ≤ 1000) (hc : n ≤ c) :
    Calls Try.prog 23 #[.slice A n c, a.val] w fun r w' => (∃ k, r = .returned (.int .i64 k) ∧ FindP l a k) ∧ Below w.heap.size w w' := by
  have HL := Lib.hid h
  have Hn := Lib.hid hn
  have HszA := Lib.hid (adr_size a)
  clear h hn
  go_enter Try.func23, Try.ntmps23
  go_wp2_with (with_reducible refine at_box 30 ?_; refine wpList_box_rowV rfl 30 _ rfl (cells a.1) rfl ?_)
  intro w1 hr1 hb1 hs1
  have HR1 := Lib.hid hr1
  have HB1 := Lib.hid hb1
  clear hr1 hb1 hs1
  obtain ⟨N, hN⟩ : ∃ N, w.heap.size = N := ⟨_, rfl⟩
  rw [hN] at HR1 HB1 hB ⊢
  go_wp2_with fail
  go_loopw [5] (fun v W => ∃ k : Nat, k ≤ n ∧ v = .int .i64 k ∧ Hid (∀ e ∈ l.take k, e.adr ≠ a) ∧ Hid (RowV W N 30 (cells a.1)) ∧ Hid (Below N w W)) (fun v _ => n - (intOf v).toNat)
  case atStart => exact ⟨0, Nat.zero_le _, rfl, by show ∀ _, _; simp, HR1, HB1⟩
  case round =>
    obtain ⟨k, hk, rfl, HK, HR, HB⟩ := hrel
    clear HR1 HB1
    by_cases hlt : k < n
    · have hlt' : (k : Int) < (n : Int) := by omega
      have hk0 : (0 : Int) ≤ (k : Int) := by omega
      obtain ⟨e, he⟩ : ∃ e, l[k]? = some e := ⟨_, List.getElem?_eq_getElem (by rw [← Hn.out]; exact hlt)⟩
      obtain ⟨b1, o1, hA1, hb1, hr1⟩ := lies_ent (HL.out.below (HB.out.mono hB)) he
      subst hA1
      have r1 : Hid (wr.drew.rangeAt b1 (o1 + k * 34) (cells e.adr.1)) := adr_of hr1
      have r2 : Hid (wr.drew.rangeAt N 0 (cells a.1)) := row_range HR.out.drew
      have HszE := Lib.hid (adr_size e.adr)
      have He := Lib.hid he
      clear hr1 he
      go_wp2_with fail
      refine wp_region_still_lit (by kernel_rfl) (by kernel_rfl) ?_
      iterate 4 still_step
      refine wpStill_exec (.agg (cells e.adr.1).toArray) rfl (by refine exec_load_mid 30 (.tmp 15) ?_ b1 (o1 + k * 34) ?_ (cells e.adr.1) _ r1.out Try.underlying30 rfl HszE.out <;> rfl) ?_
      try simp only [Act.put, List.setIfInBounds_toArray, List.set_cons_zero, List.set_cons_succ]
      refine wpStill_exec (.agg (cells a.1).toArray) rfl (by refine exec_load_mid 30 (.tmp 3) ?_ N 0 ?_ (cells a.1) _ r2.out Try.underlying30 rfl HszA.out <;> rfl) ?_
      try simp only [Act.put, List.setIfInBounds_toArray, List.set_cons_zero, List.set_cons_succ]
      refine wpStill_exec (.bool (e.adr.1 == a.1)) rfl (by refine exec_eql_bytes 30 (.tmp 16) (.tmp 17) 30 ?_ Try.underlying30 Try.underlying5 (by kernel_rfl) (by kernel_rfl) ?_ ?_ e.adr.2 a.2 <;> rfl) ?_
      try simp only [Act.put, List.setIfInBounds_toArray, List.set_cons_zero, List.set_cons_succ]
      refine wpStill_nil ?_
      change Exit.then _ _ _ _ wr.drew
      have HRd : Hid (RowV wr.drew N 30 (cells a.1)) := HR.out.drew
      have HBd : Hid (Below N w wr.drew) := HB.out.drew
      clear HR HB
      generalize wr.drew = wd at *
      by_cases ha : e.adr = a
      · have hb : (e.adr.1 == a.1) = true := by rw [ha]; exact beq_self_eq_true _
        rw [hb]
        go_wp2_with fail
        go_ret
        exact ⟨⟨_, rfl, .inl ⟨k, e, rfl, He.out, ha⟩⟩, by rw [hN]; exact HBd.out⟩
      · have hb : (e.adr.1 == a.1) = false := by rw [beq_eq_false_iff_ne]; exact fun e => ha (Subtype.ext e)
        rw [hb]
        have HK1 : Hid (∀ x ∈ l.take (k + 1), x.adr ≠ a) := by
          intro x hx
          obtain ⟨q1, q2⟩ := List.getElem?_eq_some_iff.1 He.out
          rw [List.take_succ_eq_append_getElem q1, q2] at hx
          rcases List.mem_append.1 hx with h1 | h1
          · exact HK.out x h1
          · rw [List.mem_singleton.1 h1]; exact ha
        clear r1 r2
        go_wp2_with fail
        go_roundw
        case rel => exact ⟨k + 1, by omega, by go_num, HK1, HRd, HBd⟩
        case measure => simp [intOf]; omega
    · obtain rfl : k = n := by omega
      have HK1 : Hid (∀ x ∈ l, x.adr ≠ a) := by
        have := HK.out
        rw [List.take_of_length_le (by rw [← Hn.out]; exact Nat.le_refl _)] at this
        exact this
      go_wp2_with fail
      go_ret
      exact ⟨⟨_, rfl, .inr ⟨rfl, HK1.out⟩⟩, by rw [hN]; exact HB.out⟩
end Go.Proofs.Ytiglffkbaddefaa
namespace Go.Proofs.Ytiglffkbaddefaa
open Go.RowKit
set_option linter.unusedVariables false
set_option linter.unusedSimpArgs false

theorem range_belowE {w w' : World} {b o B : Nat} {cs : List Value} (h : w.rangeAt b o cs) (hB : Below B w w') (hb : b < B) : w'.rangeAt b o cs := fun j v hj => (hB.cell (p := ⟨b, o + j, none⟩) hb).trans (h j v hj)
/-- A row of entries, nil let in. -/
def RowE (w : World) (v : Value) (l : List Ent) : Prop := ∃ A c, v = .slice A l.length c ∧ l.length ≤ c ∧ LiesV w w.heap.size A (ents l)
theorem RowE.later {w w' : World} {v : Value} {l : List Ent} (h : RowE w v l) (hB : Below w.heap.size w w') : RowE w' v l := by
  obtain ⟨A, c, hv, hc, hl⟩ := h
  exact ⟨A, c, hv, hc, (hl.below hB).le hB.size⟩
theorem RowE.but {w w' : World} {v : Value} {l : List Ent} {L : List Nat} {B : Nat} (h : ∃ A c, v = .slice A l.length c ∧ l.length ≤ c ∧ LiesV w B A (ents l)) (hB : B ≤ w'.heap.size) (hk : ∀ p : Addr, p.block < B → w'.cell? p = w.cell? p) : RowE w' v l := by
  obtain ⟨A, c, hv, hc, hl⟩ := h
  exact ⟨A, c, hv, hc, (hl.keep hk).le hB⟩
theorem RowE.own {w : World} {base n : Nat} {v : Value} {l : List Ent} (h : w.ownsRow base 32 34 v n (ents l)) : RowE w v l := by
  obtain ⟨A, c, hv, hn, hc, _, hl⟩ := lies_ownE h
  subst hn
  exact ⟨A, c, hv, hc, hl⟩
theorem RowE.nil (w : World) : RowE w (.slice none 0 0) [] := ⟨none, 0, rfl, Nat.le_refl _, LiesV.nil _ _ _⟩
/-- What the reference's Put answers. -/
def RPutP (l : List Ent) (n : Nat) (e : Ent) (code : Int) (l' : List Ent) : Prop :=
  (¬ e.ok ∧ code = 2 ∧ l' = l) ∨ (e.ok ∧ (∃ f ∈ l, f.adr = e.adr) ∧ code = 0 ∧ l' = putR l e) ∨ (e.ok ∧ (∀ f ∈ l, f.adr ≠ e.adr) ∧ n ≤ l.length + 1 ∧ code = 6 ∧ l' = l) ∨ (e.ok ∧ (∀ f ∈ l, f.adr ≠ e.adr) ∧ l.length + 1 < n ∧ code = 0 ∧ l' = putR l e)

set_option maxRecDepth 100000 in
set_option maxHeartbeats 16000000 in
theorem rput11_any (w : World) (v : Value) (l : List Ent) (tn : Nat) (e : Ent) (h : RowE w v l) (hd : Dst l) (hle : l.length ≤ 900) (htn : tn ≤ 1000) :
    Calls Try.prog 8 #[v, .int .i64 (tn : Int), e.val] w fun r w' => ∃ code l' v', r = .returned (.tuple #[v', .int .i64 code]) ∧ RowE w' v' l' ∧ (v' = v ∨ ∀ g, v'.ownBlock = some g → w.heap.size ≤ g) ∧ RPutP l tn e code l' ∧ Below w.heap.size w w' := by
  obtain ⟨A, c, rfl, hc, hl⟩ := h
  have HL := Lib.hid hl
  have Hd := Lib.hid hd
  have Hse := Lib.hid (ent_size e)
  have HszE := Lib.hid (adr_size e.adr)
  have HRow : Hid (∀ w', Below w.heap.size w w' → RowE w' (.slice A l.length c) l) := fun w' hb => ⟨A, c, rfl, hc, (hl.below hb).le hb.size⟩
  obtain ⟨n, hn⟩ : ∃ n, l.length = n := ⟨_, rfl⟩
  have Hn := Lib.hid hn
  rw [hn] at hc hle HRow ⊢
  clear hl hd hn
  go_enter Try.func8, Try.ntmps8
  go_wp2_with ((with_reducible refine at_box 32 ?_); refine wpList_box_rowV rfl 32 _ rfl e.cs rfl ?_)
  intro w1 hr1 hb1 hs1
  have q1 := Lib.hid (row_range hr1)
  go_wp2_with ((with_reducible refine at_load 32 ?_); refine wpList_load_mid rfl 32 _ rfl w.heap.size 0 rfl e.cs _ q1.out Try.underlying32 rfl Hse.out ?_)
  refine (rright11_any w1 e).mono ?_
  rintro r w2 ⟨rfl, hb2⟩
  have HR2 : Hid (RowV w2 w.heap.size 32 e.cs) := hr1.below (by omega) hb2
  have HB2 : Hid (Below w.heap.size w w2) := hb1.trans (hb2.mono (by omega))
  have hs2 : w.heap.size + 1 ≤ w2.heap.size := by have := hb2.size; omega
  clear hr1 hb1 hs1 hb2 q1
  by_cases hok : e.ok
  · rw [decide_eq_true hok]
    have Hok := Lib.hid hok
    have q2 : Hid (w2.rangeAt w.heap.size 0 (cells e.adr.1)) := adr_of (row_range HR2.out)
    obtain ⟨N, hN⟩ : ∃ N, w.heap.size = N := ⟨_, rfl⟩
    have HL0 : Hid (LiesV w N A (ents l)) := by rw [← hN]; exact HL.out
    rw [hN] at HB2 HR2 q2 hs2 HRow ⊢
    have HL2 : Hid (LiesV w2 N A (ents l)) := HL0.out.below HB2.out
    clear hok
    go_wp2_with ((with_reducible refine at_load 30 ?_); refine wpList_load_mid rfl 30 _ rfl N 0 rfl (cells e.adr.1) _ q2.out Try.underlying30 rfl HszE.out ?_)
    refine (rfind_any w2 N n c A l e.adr HL2.out Hn.out.symm (by omega) (by omega) hc).mono ?_
    rintro r w3 ⟨⟨kk, rfl, hf⟩, hb3⟩
    have HR3 : Hid (RowV w3 N 32 e.cs) := HR2.out.below (by omega) hb3
    have HB3 : Hid (Below N w w3) := HB2.out.trans (hb3.mono (by omega))
    have hs3 : N + 1 ≤ w3.heap.size := by have := hb3.size; omega
    clear HR2 HB2 hb3 q2 HL2 hs2
    -- the table is full, or the list is walked
    have key : (kk < 0 ∧ tn ≤ n + 1 ∧ (∀ f ∈ l, f.adr ≠ e.adr)) ∨ (¬ (kk < 0 ∧ tn ≤ n + 1) ∧ (∀ l', l' = putR l e → RPutP l tn e 0 l') ∧ ∀ (i : Nat) (x : Ent), l[i]? = some x → (((i : Int) == kk) = decide (x.adr = e.adr))) := by
      rcases hf with ⟨k, f, rfl, hk, ha⟩ | ⟨rfl, hno⟩
      · refine .inr ⟨by omega, fun l' h => .inr (.inl ⟨Hok.out, ⟨f, List.mem_of_getElem? hk, ha⟩, rfl, h⟩), fun i x hx => ?_⟩
        rw [Bool.eq_iff_iff, beq_iff_eq, decide_eq_true_eq]
        constructor
        · intro h
          have : i = k := by omega
          subst this
          rw [hk] at hx
          cases hx
          exact ha
        · intro h
          have hij : ∀ (i j : Nat) (x y : Ent), i < j → l[i]? = some x → l[j]? = some y → x.adr ≠ y.adr := by
            intro i j x y hij h1 h2
            obtain ⟨a1, rfl⟩ := List.getElem?_eq_some_iff.1 h1
            obtain ⟨b1, rfl⟩ := List.getElem?_eq_some_iff.1 h2
            exact List.pairwise_iff_getElem.1 Hd.out i j a1 b1 hij
          rcases Nat.lt_trichotomy i k with h1 | h1 | h1
          · exact absurd (h.trans ha.symm) (hij i k x f h1 hx hk)
          · omega
          · exact absurd (ha.trans h.symm) (hij k i f x h1 hk hx)
      · by_cases hfull : tn ≤ n + 1
        · exact .inl ⟨by decide, hfull, hno⟩
        · refine .inr ⟨fun h => hfull h.2, fun l' h => .inr (.inr (.inr ⟨Hok.out, hno, by rw [Hn.out]; omega, rfl, h⟩)), fun i x hx => ?_⟩
          have h1 := hno x (List.mem_of_getElem? hx)
          rw [decide_eq_false h1, beq_eq_false_iff_ne]
          omega
    clear hf
    rcases key with ⟨h1, h2, h3⟩ | ⟨h1, h2, h3⟩
    · have hd1 : decide (kk < 0) = true := decide_eq_true h1
      have hd2 : decide ((tn : Int) ≤ (n : Int) + 1) = true := decide_eq_true (by omega)
      have hd3 : decide ((n : Int) + 1 ≥ (tn : Int)) = true := decide_eq_true (by omega)
      have Hp : Hid (RPutP l tn e 6 l) := .inr (.inr (.inl ⟨Hok.out, h3, by rw [Hn.out]; omega, rfl, rfl⟩))
      clear h3
      go_wp2_with fail
      go_ret2
      exact ⟨6, l, _, rfl, HRow.out _ HB3.out, .inl rfl, Hp.out, by rw [hN]; exact HB3.out⟩
    · have H2 := Lib.hid h2
      have H3 := Lib.hid h3
      have hd1 : decide (kk < 0) = true → decide ((tn : Int) ≤ (n : Int) + 1) = false := fun h => decide_eq_false (by have := of_decide_eq_true h; omega)
      clear h2 h3
      by_cases hk : kk < 0
      · have hd2 : decide (kk < 0) = true := decide_eq_true hk
        have hd3 : decide ((tn : Int) ≤ (n : Int) + 1) = false := hd1 hd2
        have hd4 : decide ((n : Int) + 1 ≥ (tn : Int)) = false := hd3
        clear hd1 h1
        go_wp2_with fail
        have HO0 : Hid (w3.ownsRow (N + 1) 32 34 (.slice none 0 0) 0 (ents [])) := World.ownsRow_nil _ _ _ _
        have lenF : ∀ {k : Nat} {o : List Ent} {p : Bool}, foldR e (l.take k) = (o, p) → o.length ≤ k + 1 := by
          intro k o p h
          have h1 := foldR_len e (l.take k)
          rw [h] at h1
          have h2 : (l.take k).countP (fun x => decide (x.adr ≠ e.adr)) ≤ (l.take k).length := List.countP_le_length
          rw [List.length_take] at h2
          simp only at h1
          split at h1 <;> omega
        go_loopw [9, 10, 11] (fun v9 v10 v W => ∃ (k : Nat) (o : List Ent) (p : Bool), k ≤ n ∧ v = .int .i64 k ∧ v10 = .bool p ∧ Hid (foldR e (l.take k) = (o, p)) ∧ Hid (o.length ≤ k + 1) ∧ Hid (W.ownsRow (N + 1) 32 34 v9 o.length (ents o)) ∧ Hid (RowV W N 32 e.cs) ∧ Hid (Below N w W) ∧ Hid (N + 1 ≤ W.heap.size)) (fun _ _ v _ => n - (intOf v).toNat)
        case atStart => exact ⟨0, [], false, Nat.zero_le _, rfl, rfl, rfl, by show _ ≤ _; simp, HO0, HR3, HB3, hs3⟩
        case round =>
          obtain ⟨k, o, p, hk, rfl, rfl, HF, HLn, HO, HR, HB, HZ⟩ := hrel
          clear HO0 HR3 HB3 hs3
          have hlo0 : o.length ≤ k + 1 := HLn.out
          by_cases hlt : k < n
          · have hlt' : (k : Int) < (n : Int) := by omega
            have hk0 : (0 : Int) ≤ (k : Int) := by omega
            obtain ⟨x, hx⟩ : ∃ x, l[k]? = some x := ⟨_, List.getElem?_eq_getElem (by rw [Hn.out]; exact hlt)⟩
            obtain ⟨b1, o1, hA1, hb1, hr1⟩ := lies_ent (HL0.out.below HB.out) hx
            subst hA1
            have Hx := Lib.hid hx
            have Rf := Lib.hid hr1
            have Rx := Lib.hid (adr_of hr1)
            have Hsx := Lib.hid (ent_size x)
            have HszX := Lib.hid (adr_size x.adr)
            have hz := HZ.out
            clear hx hr1
            cases p
            · go_wp2_with fail
              obtain ⟨wd, hwd⟩ : ∃ wd, wr.drew = wd := ⟨_, rfl⟩
              have hSc : Below wd.heap.size wd wr.drew := by rw [hwd]; exact Below.refl _ _
              refine wp_region_held_drew (S := fun W => Below wd.heap.size wd W) (by kernel_rfl) hSc (fun hHeld => ?_)
              have HOd : Hid (wr.drew.ownsRow (N + 1) 32 34 u9 o.length (ents o)) := HO.out.drew
              have HRd : Hid (RowV wr.drew N 32 e.cs) := HR.out.drew
              have HBd : Hid (Below N w wr.drew) := HB.out.drew
              have r1 : Hid (wr.drew.rangeAt b1 (o1 + k * 34) (cells x.adr.1)) := Rx.out
              have r2 : Hid (wr.drew.rangeAt b1 (o1 + k * 34) x.cs) := Rf.out
              have hzd : N + 1 ≤ wr.drew.heap.size := hz
              rw [hwd] at hSc hHeld HOd HRd HBd r1 r2 hzd ⊢
              clear hwd HO HR HB Rx Rf hz
              have hb1d : b1 < wd.heap.size := by omega
              have hNd : N < wd.heap.size := by omega
              have q5 : Hid (wd.rangeAt N 0 (cells e.adr.1)) := adr_of (row_range HRd.out)
              refine wpAnyH_take (i := 0) (oi := ⟨_, _, _, _, _, _⟩) (v := ?_) rfl (by kernel_rfl) (by kernel_rfl) (by kernel_rfl) (fun _ _ _ h => h) (Or.inl ⟨by rfl, ?_⟩) (by assumption) ?_
              rotate_left
              · intro W hSW; go_simp; try with_reducible rfl
              try simp only [Act.put, List.setIfInBounds_toArray, List.set_cons_zero, List.set_cons_succ]
              refine wpAnyH_take (i := 1) (oi := ⟨_, _, _, _, _, _⟩) (v := ?_) rfl (by kernel_rfl) (by kernel_rfl) (by kernel_rfl) (fun _ _ _ h => h) (Or.inl ⟨by rfl, ?_⟩) (by assumption) ?_
              rotate_left
              · intro W hSW; go_simp; try with_reducible rfl
              try simp only [Act.put, List.setIfInBounds_toArray, List.set_cons_zero, List.set_cons_succ]
              refine wpAnyH_take (i := 2) (oi := ⟨_, _, _, _, _, _⟩) (v := ?_) rfl (by kernel_rfl) (by kernel_rfl) (by kernel_rfl) (fun _ _ _ h => h) (Or.inl ⟨by rfl, ?_⟩) (by assumption) ?_
              rotate_left
              · intro W hSW; go_simp; try with_reducible rfl
              try simp only [Act.put, List.setIfInBounds_toArray, List.set_cons_zero, List.set_cons_succ]
              refine wpAnyH_take (i := 3) (oi := ⟨_, _, _, _, _, _⟩) (v := ?_) rfl (by kernel_rfl) (by kernel_rfl) (by kernel_rfl) (fun _ _ _ h => h) (Or.inl ⟨by rfl, ?_⟩) (by assumption) ?_
              rotate_left
              · intro W hSW; go_simp; try with_reducible rfl
              try simp only [Act.put, List.setIfInBounds_toArray, List.set_cons_zero, List.set_cons_succ]
              refine wpAnyH_take (i := 4) (oi := ⟨_, _, _, _, _, _⟩) (v := ?_) rfl (by kernel_rfl) (by kernel_rfl) (by kernel_rfl) (fun _ _ _ h => h) (Or.inl ⟨by rfl, ?_⟩) (by assumption) ?_
              rotate_left
              · intro W hSW; go_simp; try with_reducible rfl
              try simp only [Act.put, List.setIfInBounds_toArray, List.set_cons_zero, List.set_cons_succ]
              refine wpAnyH_take (i := 5) (oi := ⟨_, _, _, _, _, _⟩) (v := ?_) rfl (by kernel_rfl) (by kernel_rfl) (by kernel_rfl) (fun _ _ _ h => h) (Or.inl ⟨by rfl, ?_⟩) (by assumption) ?_
              rotate_left
              · intro W hSW; go_simp; try with_reducible rfl
              try simp only [Act.put, List.setIfInBounds_toArray, List.set_cons_zero, List.set_cons_succ]
              refine wpAnyH_take (i := 6) (oi := ⟨_, _, _, _, _, _⟩) (v := ?_) rfl (by kernel_rfl) (by kernel_rfl) (by kernel_rfl) (fun _ _ _ h => h) (Or.inl ⟨by rfl, ?_⟩) (by assumption) ?_
              rotate_left
              · intro W hSW; go_simp; try with_reducible rfl
              try simp only [Act.put, List.setIfInBounds_toArray, List.set_cons_zero, List.set_cons_succ]
              refine wpAnyH_take (i := 7) (oi := ⟨_, _, _, _, _, _⟩) (v := ?_) rfl (by kernel_rfl) (by kernel_rfl) (by kernel_rfl) (fun _ _ _ h => h) (Or.inl ⟨by rfl, ?_⟩) (by assumption) ?_
              rotate_left
              · intro W hSW; refine exec_load_mid 30 (.tmp 42) ?_ b1 (o1 + k * 34) ?_ (cells x.adr.1) _ (range_belowE r1.out hSW hb1d) Try.underlying30 rfl HszX.out <;> rfl
              try simp only [Act.put, List.setIfInBounds_toArray, List.set_cons_zero, List.set_cons_succ]
              refine wpAnyH_take (i := 8) (oi := ⟨_, _, _, _, _, _⟩) (v := ?_) rfl (by kernel_rfl) (by kernel_rfl) (by kernel_rfl) (fun _ _ _ h => h) (Or.inl ⟨by rfl, ?_⟩) (by assumption) ?_
              rotate_left
              · intro W hSW; go_simp; try with_reducible rfl
              try simp only [Act.put, List.setIfInBounds_toArray, List.set_cons_zero, List.set_cons_succ]
              refine wpAnyH_take (i := 9) (oi := ⟨_, _, _, _, _, _⟩) (v := ?_) rfl (by kernel_rfl) (by kernel_rfl) (by kernel_rfl) (fun _ _ _ h => h) (Or.inl ⟨by rfl, ?_⟩) (by assumption) ?_
              rotate_left
              · intro W hSW; refine exec_load_mid 30 (.tmp 44) ?_ N 0 ?_ (cells e.adr.1) _ (range_belowE q5.out hSW hNd) Try.underlying30 rfl HszE.out <;> rfl
              try simp only [Act.put, List.setIfInBounds_toArray, List.set_cons_zero, List.set_cons_succ]
              refine wpAnyH_ready (rs := [10]) (by kernel_rfl) (by simp) ?_
              refine AllReadyH.cons (o := ⟨_, _, _, _, _, _⟩) rfl (fun K hK => ?_) AllReadyH.nil
              go_simp
              refine (rless_any x.adr.1 e.adr.1 x.adr.2 e.adr.2 _).mono ?_
              rintro e wx ⟨rfl, hb⟩
              try simp only []
              have hSwx := hSc.trans (hb.mono hSc.size)
              refine hK.out _ _ hSwx (fun hHeld => ?_)
              clear hK K hb hSc
              have hSc := hSwx
              clear hSwx
              try simp only [Act.put, List.setIfInBounds_toArray, List.set_cons_zero, List.set_cons_succ]
              refine wpAnyH_take (i := 11) (oi := ⟨_, _, _, _, _, _⟩) (v := ?_) rfl (by kernel_rfl) (by kernel_rfl) (by kernel_rfl) (fun _ _ _ h => h) (Or.inl ⟨by rfl, ?_⟩) (by assumption) ?_
              rotate_left
              · intro W hSW; go_simp; try with_reducible rfl
              try simp only [Act.put, List.setIfInBounds_toArray, List.set_cons_zero, List.set_cons_succ]
              refine wpAnyH_take (i := 12) (oi := ⟨_, _, _, _, _, _⟩) (v := ?_) rfl (by kernel_rfl) (by kernel_rfl) (by kernel_rfl) (fun _ _ _ h => h) (Or.inl ⟨by rfl, ?_⟩) (by assumption) ?_
              rotate_left
              · intro W hSW; go_simp; try with_reducible rfl
              try simp only [Act.put, List.setIfInBounds_toArray, List.set_cons_zero, List.set_cons_succ]
              refine wpAnyH_done (by kernel_rfl) ?_ _
              have HO2 : Hid (wx.ownsRow (N + 1) 32 34 u9 o.length (ents o)) := own_below HOd.out hSc
              have HR2 : Hid (RowV wx N 32 e.cs) := HRd.out.below hNd hSc
              have HB2 : Hid (Below N w wx) := HBd.out.trans (hSc.mono (by omega))
              have R2 := Lib.hid (range_belowE r2.out hSc hb1d)
              have hz2 : N + 1 ≤ wx.heap.size := by have := hSc.size; omega
              have QE := Lib.hid (row_range HR2.out)
              clear HOd HRd HBd r1 r2 q5 hSc hb1d hNd hzd hHeld
              cases hless : Op.bytesLess x.adr.1 e.adr.1
              · have hlo : o.length + 1 ≤ k + 2 := by omega
                have ha : x.adr ≠ e.adr := fun h => by have := H3.out k x Hx.out; rw [decide_eq_true h, beq_iff_eq] at this; omega
                have hkk : ((k : Int) == kk) = false := by rw [H3.out k x Hx.out]; exact decide_eq_false ha
                have hkk2 : ¬ ((k : Int) = kk) := by rw [beq_eq_false_iff_ne] at hkk; exact hkk
                have HF1 : Hid (foldR e (l.take (k + 1)) = (o ++ [e] ++ [x], true)) := by
                  show _ = _
                  rw [take_snoc Hx.out, foldR_snoc, HF.out]
                  rw [stepR_put ⟨rfl, hless⟩, if_neg ha]
                have HLn1 : Hid ((o ++ [e] ++ [x]).length ≤ k + 1 + 1) := lenF HF1.out
                have hlo : (o ++ [e]).length ≤ k + 2 := by (simp only [List.length_append, List.length_singleton]; omega)
                go_wp2_with (first
                  | ((with_reducible refine at_load 32 ?_); refine wpList_load_mid rfl 32 _ rfl N 0 rfl e.cs _ QE.out Try.underlying32 rfl Hse.out ?_)
                  | ((with_reducible refine at_buildSlice 22 ?_); refine wpList_buildSlice_oneV rfl 22 32 _ rfl e.cs rfl Try.underlying22 Try.infoE (Ent.cs_length _) (by decide) (by decide) ?_; intro waA hraA hbaA hsaA; have HOaA := Lib.hid (own_below HO2.out hbaA))
                  | (at_builtin; refine wpList_append_one rfl _ _ 22 rfl (N + 1) 32 Try.underlying22 Try.infoE rfl (by decide) _ _ _ rfl HOaA.out _ e.cs rfl hraA (Ent.cs_length _) (Ent.one _) (by unfold maxLen; omega) (by omega) (by omega) ?_; intro vA wbA hownbA hgbA hwhbA; have HOA : Hid (wbA.ownsRow (N + 1) 32 34 vA (o ++ [e]).length (ents (o ++ [e]))) := (by rw [List.length_append, ents_snoc]; exact hownbA); have HB0A : Hid (Below N wx wbA) := (hbaA.mono (by omega)).grown hgbA (by omega) (fun g e => by have := own_ge HOaA.out g e; omega); have HRA : Hid (RowV wbA N 32 e.cs) := (HR2.out.below (by omega) hbaA).keep hgbA (fun e => by have := own_ge HOaA.out _ e; omega); have HBA : Hid (Below N w wbA) := HB2.out.trans HB0A.out; have HZA : N + 1 ≤ wbA.heap.size := (by have := hgbA.size; omega); have RA := Lib.hid (range_belowE R2.out HB0A.out hb1); clear hownbA hgbA hwhbA)
                  | ((with_reducible refine at_load 32 ?_); refine wpList_load_mid rfl 32 _ rfl b1 (o1 + k * 34) rfl x.cs _ RA.out Try.underlying32 rfl Hsx.out ?_)
                  | ((with_reducible refine at_buildSlice 22 ?_); refine wpList_buildSlice_oneV rfl 22 32 _ rfl x.cs rfl Try.underlying22 Try.infoE (Ent.cs_length _) (by decide) (by decide) ?_; intro waB hraB hbaB hsaB; have HOaB := Lib.hid (own_below HOA.out hbaB))
                  | (at_builtin; refine wpList_append_one rfl _ _ 22 rfl (N + 1) 32 Try.underlying22 Try.infoE rfl (by decide) _ _ _ rfl HOaB.out _ x.cs rfl hraB (Ent.cs_length _) (Ent.one _) (by unfold maxLen; omega) (by omega) (by omega) ?_; intro vB wbB hownbB hgbB hwhbB; have HOB : Hid (wbB.ownsRow (N + 1) 32 34 vB (o ++ [e] ++ [x]).length (ents (o ++ [e] ++ [x]))) := (by rw [List.length_append, ents_snoc]; exact hownbB); have HB0B : Hid (Below N wbA wbB) := (hbaB.mono (by omega)).grown hgbB (by omega) (fun g e => by have := own_ge HOaB.out g e; omega); have HRB : Hid (RowV wbB N 32 e.cs) := (HRA.out.below (by omega) hbaB).keep hgbB (fun e => by have := own_ge HOaB.out _ e; omega); have HBB : Hid (Below N w wbB) := HBA.out.trans HB0B.out; have HZB : N + 1 ≤ wbB.heap.size := (by have := hgbB.size; omega); clear hownbB hgbB hwhbB))
                go_roundw
                case rel => exact ⟨k + 1, o ++ [e] ++ [x], true, by omega, by go_num, rfl, HF1, HLn1, HOB, HRB, HBB, HZB⟩
                case measure => simp [intOf]; omega
              · skip
                have ha : x.adr ≠ e.adr := fun h => by have := H3.out k x Hx.out; rw [decide_eq_true h, beq_iff_eq] at this; omega
                have hkk : ((k : Int) == kk) = false := by rw [H3.out k x Hx.out]; exact decide_eq_false ha
                have hkk2 : ¬ ((k : Int) = kk) := by rw [beq_eq_false_iff_ne] at hkk; exact hkk
                have HF1 : Hid (foldR e (l.take (k + 1)) = (o ++ [x], false)) := by
                  show _ = _
                  rw [take_snoc Hx.out, foldR_snoc, HF.out]
                  rw [stepR_keep (by rw [hless]; simp), if_neg ha]
                have HLn1 : Hid ((o ++ [x]).length ≤ k + 1 + 1) := lenF HF1.out
                have hlo : (o).length ≤ k + 2 := by omega
                go_wp2_with (first
                  | ((with_reducible refine at_load 32 ?_); refine wpList_load_mid rfl 32 _ rfl b1 (o1 + k * 34) rfl x.cs _ R2.out Try.underlying32 rfl Hsx.out ?_)
                  | ((with_reducible refine at_buildSlice 22 ?_); refine wpList_buildSlice_oneV rfl 22 32 _ rfl x.cs rfl Try.underlying22 Try.infoE (Ent.cs_length _) (by decide) (by decide) ?_; intro waB hraB hbaB hsaB; have HOaB := Lib.hid (own_below HO2.out hbaB))
                  | (at_builtin; refine wpList_append_one rfl _ _ 22 rfl (N + 1) 32 Try.underlying22 Try.infoE rfl (by decide) _ _ _ rfl HOaB.out _ x.cs rfl hraB (Ent.cs_length _) (Ent.one _) (by unfold maxLen; omega) (by omega) (by omega) ?_; intro vB wbB hownbB hgbB hwhbB; have HOB : Hid (wbB.ownsRow (N + 1) 32 34 vB (o ++ [x]).length (ents (o ++ [x]))) := (by rw [List.length_append, ents_snoc]; exact hownbB); have HB0B : Hid (Below N wx wbB) := (hbaB.mono (by omega)).grown hgbB (by omega) (fun g e => by have := own_ge HOaB.out g e; omega); have HRB : Hid (RowV wbB N 32 e.cs) := (HR2.out.below (by omega) hbaB).keep hgbB (fun e => by have := own_ge HOaB.out _ e; omega); have HBB : Hid (Below N w wbB) := HB2.out.trans HB0B.out; have HZB : N + 1 ≤ wbB.heap.size := (by have := hgbB.size; omega); clear hownbB hgbB hwhbB))
                go_roundw
                case rel => exact ⟨k + 1, o ++ [x], false, by omega, by go_num, rfl, HF1, HLn1, HOB, HRB, HBB, HZB⟩
                case measure => simp [intOf]; omega
            · go_wp2_with fail
              obtain ⟨wd, hwd⟩ : ∃ wd, wr.drew = wd := ⟨_, rfl⟩
              have hSc : Below wd.heap.size wd wr.drew := by rw [hwd]; exact Below.refl _ _
              refine wp_region_held_drew (S := fun W => Below wd.heap.size wd W) (by kernel_rfl) hSc (fun hHeld => ?_)
              have HOd : Hid (wr.drew.ownsRow (N + 1) 32 34 u9 o.length (ents o)) := HO.out.drew
              have HRd : Hid (RowV wr.drew N 32 e.cs) := HR.out.drew
              have HBd : Hid (Below N w wr.drew) := HB.out.drew
              have r1 : Hid (wr.drew.rangeAt b1 (o1 + k * 34) (cells x.adr.1)) := Rx.out
              have r2 : Hid (wr.drew.rangeAt b1 (o1 + k * 34) x.cs) := Rf.out
              have hzd : N + 1 ≤ wr.drew.heap.size := hz
              rw [hwd] at hSc hHeld HOd HRd HBd r1 r2 hzd ⊢
              clear hwd HO HR HB Rx Rf hz
              have hb1d : b1 < wd.heap.size := by omega
              have hNd : N < wd.heap.size := by omega
              have q5 : Hid (wd.rangeAt N 0 (cells e.adr.1)) := adr_of (row_range HRd.out)
              refine wpAnyH_take (i := 0) (oi := ⟨_, _, _, _, _, _⟩) (v := ?_) rfl (by kernel_rfl) (by kernel_rfl) (by kernel_rfl) (fun _ _ _ h => h) (Or.inl ⟨by rfl, ?_⟩) (by assumption) ?_
              rotate_left
              · intro W hSW; go_simp; try with_reducible rfl
              try simp only [Act.put, List.setIfInBounds_toArray, List.set_cons_zero, List.set_cons_succ]
              refine wpAnyH_take (i := 1) (oi := ⟨_, _, _, _, _, _⟩) (v := ?_) rfl (by kernel_rfl) (by kernel_rfl) (by kernel_rfl) (fun _ _ _ h => h) (Or.inl ⟨by rfl, ?_⟩) (by assumption) ?_
              rotate_left
              · intro W hSW; go_simp; try with_reducible rfl
              try simp only [Act.put, List.setIfInBounds_toArray, List.set_cons_zero, List.set_cons_succ]
              refine wpAnyH_take (i := 2) (oi := ⟨_, _, _, _, _, _⟩) (v := ?_) rfl (by kernel_rfl) (by kernel_rfl) (by kernel_rfl) (fun _ _ _ h => h) (Or.inl ⟨by rfl, ?_⟩) (by assumption) ?_
              rotate_left
              · intro W hSW; go_simp; try with_reducible rfl
              try simp only [Act.put, List.setIfInBounds_toArray, List.set_cons_zero, List.set_cons_succ]
              refine wpAnyH_take (i := 3) (oi := ⟨_, _, _, _, _, _⟩) (v := undef) rfl (by kernel_rfl) (by kernel_rfl) (by kernel_rfl) (fun _ _ _ h => h) (Or.inr ⟨by rfl, rfl⟩) (by assumption) ?_
              try simp only [Act.put, List.setIfInBounds_toArray, List.set_cons_zero, List.set_cons_succ]
              refine wpAnyH_take (i := 4) (oi := ⟨_, _, _, _, _, _⟩) (v := undef) rfl (by kernel_rfl) (by kernel_rfl) (by kernel_rfl) (fun _ _ _ h => h) (Or.inr ⟨by rfl, rfl⟩) (by assumption) ?_
              try simp only [Act.put, List.setIfInBounds_toArray, List.set_cons_zero, List.set_cons_succ]
              refine wpAnyH_take (i := 5) (oi := ⟨_, _, _, _, _, _⟩) (v := undef) rfl (by kernel_rfl) (by kernel_rfl) (by kernel_rfl) (fun _ _ _ h => h) (Or.inr ⟨by rfl, rfl⟩) (by assumption) ?_
              try simp only [Act.put, List.setIfInBounds_toArray, List.set_cons_zero, List.set_cons_succ]
              refine wpAnyH_take (i := 6) (oi := ⟨_, _, _, _, _, _⟩) (v := undef) rfl (by kernel_rfl) (by kernel_rfl) (by kernel_rfl) (fun _ _ _ h => h) (Or.inr ⟨by rfl, rfl⟩) (by assumption) ?_
              try simp only [Act.put, List.setIfInBounds_toArray, List.set_cons_zero, List.set_cons_succ]
              refine wpAnyH_take (i := 7) (oi := ⟨_, _, _, _, _, _⟩) (v := undef) rfl (by kernel_rfl) (by kernel_rfl) (by kernel_rfl) (fun _ _ _ h => h) (Or.inr ⟨by rfl, rfl⟩) (by assumption) ?_
              try simp only [Act.put, List.setIfInBounds_toArray, List.set_cons_zero, List.set_cons_succ]
              refine wpAnyH_take (i := 8) (oi := ⟨_, _, _, _, _, _⟩) (v := undef) rfl (by kernel_rfl) (by kernel_rfl) (by kernel_rfl) (fun _ _ _ h => h) (Or.inr ⟨by rfl, rfl⟩) (by assumption) ?_
              try simp only [Act.put, List.setIfInBounds_toArray, List.set_cons_zero, List.set_cons_succ]
              refine wpAnyH_take (i := 9) (oi := ⟨_, _, _, _, _, _⟩) (v := undef) rfl (by kernel_rfl) (by kernel_rfl) (by kernel_rfl) (fun _ _ _ h => h) (Or.inr ⟨by rfl, rfl⟩) (by assumption) ?_
              try simp only [Act.put, List.setIfInBounds_toArray, List.set_cons_zero, List.set_cons_succ]
              refine wpAnyH_take (i := 10) (oi := ⟨_, _, _, _, _, _⟩) (v := undef) rfl (by kernel_rfl) (by kernel_rfl) (by kernel_rfl) (fun _ _ _ h => h) (Or.inr ⟨by rfl, rfl⟩) (by assumption) ?_
              try simp only [Act.put, List.setIfInBounds_toArray, List.set_cons_zero, List.set_cons_succ]
              refine wpAnyH_take (i := 11) (oi := ⟨_, _, _, _, _, _⟩) (v := undef) rfl (by kernel_rfl) (by kernel_rfl) (by kernel_rfl) (fun _ _ _ h => h) (Or.inr ⟨by rfl, rfl⟩) (by assumption) ?_
              try simp only [Act.put, List.setIfInBounds_toArray, List.set_cons_zero, List.set_cons_succ]
              refine wpAnyH_take (i := 12) (oi := ⟨_, _, _, _, _, _⟩) (v := ?_) rfl (by kernel_rfl) (by kernel_rfl) (by kernel_rfl) (fun _ _ _ h => h) (Or.inl ⟨by rfl, ?_⟩) (by assumption) ?_
              rotate_left
              · intro W hSW; go_simp; try with_reducible rfl
              try simp only [Act.put, List.setIfInBounds_toArray, List.set_cons_zero, List.set_cons_succ]
              refine wpAnyH_done (by kernel_rfl) ?_ _
              obtain ⟨wx, hwx⟩ : ∃ wx, wd = wx := ⟨_, rfl⟩
              have hSx : Below wd.heap.size wd wd := Below.refl _ _
              clear r1 q5 hSc hSx hwx hHeld
              have hz2 : N + 1 ≤ wd.heap.size := hzd
              have ha : x.adr ≠ e.adr := fun h => by have := H3.out k x Hx.out; rw [decide_eq_true h, beq_iff_eq] at this; omega
              have hkk : ((k : Int) == kk) = false := by rw [H3.out k x Hx.out]; exact decide_eq_false ha
              have hkk2 : ¬ ((k : Int) = kk) := by rw [beq_eq_false_iff_ne] at hkk; exact hkk
              have HF1 : Hid (foldR e (l.take (k + 1)) = (o ++ [x], true)) := by
                show _ = _
                rw [take_snoc Hx.out, foldR_snoc, HF.out]
                rw [stepR_keep (by simp), if_neg ha]
              have HLn1 : Hid ((o ++ [x]).length ≤ k + 1 + 1) := lenF HF1.out
              have hlo : (o).length ≤ k + 2 := by omega
              go_wp2_with (first
                | ((with_reducible refine at_load 32 ?_); refine wpList_load_mid rfl 32 _ rfl b1 (o1 + k * 34) rfl x.cs _ r2.out Try.underlying32 rfl Hsx.out ?_)
                | ((with_reducible refine at_buildSlice 22 ?_); refine wpList_buildSlice_oneV rfl 22 32 _ rfl x.cs rfl Try.underlying22 Try.infoE (Ent.cs_length _) (by decide) (by decide) ?_; intro waB hraB hbaB hsaB; have HOaB := Lib.hid (own_below HOd.out hbaB))
                | (at_builtin; refine wpList_append_one rfl _ _ 22 rfl (N + 1) 32 Try.underlying22 Try.infoE rfl (by decide) _ _ _ rfl HOaB.out _ x.cs rfl hraB (Ent.cs_length _) (Ent.one _) (by unfold maxLen; omega) (by omega) (by omega) ?_; intro vB wbB hownbB hgbB hwhbB; have HOB : Hid (wbB.ownsRow (N + 1) 32 34 vB (o ++ [x]).length (ents (o ++ [x]))) := (by rw [List.length_append, ents_snoc]; exact hownbB); have HB0B : Hid (Below N wd wbB) := (hbaB.mono (by omega)).grown hgbB (by omega) (fun g e => by have := own_ge HOaB.out g e; omega); have HRB : Hid (RowV wbB N 32 e.cs) := (HRd.out.below (by omega) hbaB).keep hgbB (fun e => by have := own_ge HOaB.out _ e; omega); have HBB : Hid (Below N w wbB) := HBd.out.trans HB0B.out; have HZB : N + 1 ≤ wbB.heap.size := (by have := hgbB.size; omega); clear hownbB hgbB hwhbB))
              go_roundw
              case rel => exact ⟨k + 1, o ++ [x], true, by omega, by go_num, rfl, HF1, HLn1, HOB, HRB, HBB, HZB⟩
              case measure => simp [intOf]; omega
          · obtain rfl : k = n := by omega
            have hfin : foldR e l = (o, p) := by have := HF.out; rw [List.take_of_length_le (by rw [Hn.out]; exact Nat.le_refl _)] at this; exact this
            have QE := Lib.hid (row_range HR.out)
            have hz2 := HZ.out
            cases p
            · have Hp : Hid (RPutP l tn e 0 (o ++ [e])) := H2.out _ (by unfold putR endR; rw [hfin]; rfl)
              clear hfin
              go_wp2_with (first
                | ((with_reducible refine at_load 32 ?_); refine wpList_load_mid rfl 32 _ rfl N 0 rfl e.cs _ QE.out Try.underlying32 rfl Hse.out ?_)
                | ((with_reducible refine at_buildSlice 22 ?_); refine wpList_buildSlice_oneV rfl 22 32 _ rfl e.cs rfl Try.underlying22 Try.infoE (Ent.cs_length _) (by decide) (by decide) ?_; intro waA hraA hbaA hsaA; have HOaA := Lib.hid (own_below HO.out hbaA))
                | (at_builtin; refine wpList_append_one rfl _ _ 22 rfl (N + 1) 32 Try.underlying22 Try.infoE rfl (by decide) _ _ _ rfl HOaA.out _ e.cs rfl hraA (Ent.cs_length _) (Ent.one _) (by unfold maxLen; omega) (by omega) (by omega) ?_; intro vA wbA hownbA hgbA hwhbA; have HOA : Hid (wbA.ownsRow (N + 1) 32 34 vA (o ++ [e]).length (ents (o ++ [e]))) := (by rw [List.length_append, ents_snoc]; exact hownbA); have HB0A : Hid (Below N wr wbA) := (hbaA.mono (by omega)).grown hgbA (by omega) (fun g e => by have := own_ge HOaA.out g e; omega); have HRA : Hid (RowV wbA N 32 e.cs) := (HR.out.below (by omega) hbaA).keep hgbA (fun e => by have := own_ge HOaA.out _ e; omega); have HBA : Hid (Below N w wbA) := HB.out.trans HB0A.out; have HZA : N + 1 ≤ wbA.heap.size := (by have := hgbA.size; omega); clear hownbA hgbA hwhbA))
              go_ret2
              exact ⟨0, o ++ [e], _, rfl, RowE.own HOA.out, .inr (fun g e => by have : N + 1 ≤ g := own_ge HOA.out g e; omega), Hp.out, by rw [hN]; exact HBA.out⟩
            · have Hp : Hid (RPutP l tn e 0 o) := H2.out _ (by unfold putR endR; rw [hfin]; rfl)
              clear hfin
              go_wp2_with fail
              go_ret2
              exact ⟨0, o, _, rfl, RowE.own HO.out, .inr (fun g e => by have : N + 1 ≤ g := own_ge HO.out g e; omega), Hp.out, by rw [hN]; exact HB.out⟩
      · have hd2 : decide (kk < 0) = false := decide_eq_false hk
        clear hd1 h1
        go_wp2_with fail
        have HO0 : Hid (w3.ownsRow (N + 1) 32 34 (.slice none 0 0) 0 (ents [])) := World.ownsRow_nil _ _ _ _
        have lenF : ∀ {k : Nat} {o : List Ent} {p : Bool}, foldR e (l.take k) = (o, p) → o.length ≤ k + 1 := by
          intro k o p h
          have h1 := foldR_len e (l.take k)
          rw [h] at h1
          have h2 : (l.take k).countP (fun x => decide (x.adr ≠ e.adr)) ≤ (l.take k).length := List.countP_le_length
          rw [List.length_take] at h2
          simp only at h1
          split at h1 <;> omega
        go_loopw [9, 10, 11] (fun v9 v10 v W => ∃ (k : Nat) (o : List Ent) (p : Bool), k ≤ n ∧ v = .int .i64 k ∧ v10 = .bool p ∧ Hid (foldR e (l.take k) = (o, p)) ∧ Hid (o.length ≤ k + 1) ∧ Hid (W.ownsRow (N + 1) 32 34 v9 o.length (ents o)) ∧ Hid (RowV W N 32 e.cs) ∧ Hid (Below N w W) ∧ Hid (N + 1 ≤ W.heap.size)) (fun _ _ v _ => n - (intOf v).toNat)
        case atStart => exact ⟨0, [], false, Nat.zero_le _, rfl, rfl, rfl, by show _ ≤ _; simp, HO0, HR3, HB3, hs3⟩
        case round =>
          obtain ⟨k, o, p, hk, rfl, rfl, HF, HLn, HO, HR, HB, HZ⟩ := hrel
          clear HO0 HR3 HB3 hs3
          have hlo0 : o.length ≤ k + 1 := HLn.out
          by_cases hlt : k < n
          · have hlt' : (k : Int) < (n : Int) := by omega
            have hk0 : (0 : Int) ≤ (k : Int) := by omega
            obtain ⟨x, hx⟩ : ∃ x, l[k]? = some x := ⟨_, List.getElem?_eq_getElem (by rw [Hn.out]; exact hlt)⟩
            obtain ⟨b1, o1, hA1, hb1, hr1⟩ := lies_ent (HL0.out.below HB.out) hx
            subst hA1
            have Hx := Lib.hid hx
            have Rf := Lib.hid hr1
            have Rx := Lib.hid (adr_of hr1)
            have Hsx := Lib.hid (ent_size x)
            have HszX := Lib.hid (adr_size x.adr)
            have hz := HZ.out
            clear hx hr1
            cases p
            · go_wp2_with fail
              obtain ⟨wd, hwd⟩ : ∃ wd, wr.drew = wd := ⟨_, rfl⟩
              have hSc : Below wd.heap.size wd wr.drew := by rw [hwd]; exact Below.refl _ _
              refine wp_region_held_drew (S := fun W => Below wd.heap.size wd W) (by kernel_rfl) hSc (fun hHeld => ?_)
              have HOd : Hid (wr.drew.ownsRow (N + 1) 32 34 u9 o.length (ents o)) := HO.out.drew
              have HRd : Hid (RowV wr.drew N 32 e.cs) := HR.out.drew
              have HBd : Hid (Below N w wr.drew) := HB.out.drew
              have r1 : Hid (wr.drew.rangeAt b1 (o1 + k * 34) (cells x.adr.1)) := Rx.out
              have r2 : Hid (wr.drew.rangeAt b1 (o1 + k * 34) x.cs) := Rf.out
              have hzd : N + 1 ≤ wr.drew.heap.size := hz
              rw [hwd] at hSc hHeld HOd HRd HBd r1 r2 hzd ⊢
              clear hwd HO HR HB Rx Rf hz
              have hb1d : b1 < wd.heap.size := by omega
              have hNd : N < wd.heap.size := by omega
              have q5 : Hid (wd.rangeAt N 0 (cells e.adr.1)) := adr_of (row_range HRd.out)
              refine wpAnyH_take (i := 0) (oi := ⟨_, _, _, _, _, _⟩) (v := ?_) rfl (by kernel_rfl) (by kernel_rfl) (by kernel_rfl) (fun _ _ _ h => h) (Or.inl ⟨by rfl, ?_⟩) (by assumption) ?_
              rotate_left
              · intro W hSW; go_simp; try with_reducible rfl
              try simp only [Act.put, List.setIfInBounds_toArray, List.set_cons_zero, List.set_cons_succ]
              refine wpAnyH_take (i := 1) (oi := ⟨_, _, _, _, _, _⟩) (v := ?_) rfl (by kernel_rfl) (by kernel_rfl) (by kernel_rfl) (fun _ _ _ h => h) (Or.inl ⟨by rfl, ?_⟩) (by assumption) ?_
              rotate_left
              · intro W hSW; go_simp; try with_reducible rfl
              try simp only [Act.put, List.setIfInBounds_toArray, List.set_cons_zero, List.set_cons_succ]
              refine wpAnyH_take (i := 2) (oi := ⟨_, _, _, _, _, _⟩) (v := ?_) rfl (by kernel_rfl) (by kernel_rfl) (by kernel_rfl) (fun _ _ _ h => h) (Or.inl ⟨by rfl, ?_⟩) (by assumption) ?_
              rotate_left
              · intro W hSW; go_simp; try with_reducible rfl
              try simp only [Act.put, List.setIfInBounds_toArray, List.set_cons_zero, List.set_cons_succ]
              refine wpAnyH_take (i := 3) (oi := ⟨_, _, _, _, _, _⟩) (v := ?_) rfl (by kernel_rfl) (by kernel_rfl) (by kernel_rfl) (fun _ _ _ h => h) (Or.inl ⟨by rfl, ?_⟩) (by assumption) ?_
              rotate_left
              · intro W hSW; go_simp; try with_reducible rfl
              try simp only [Act.put, List.setIfInBounds_toArray, List.set_cons_zero, List.set_cons_succ]
              refine wpAnyH_take (i := 4) (oi := ⟨_, _, _, _, _, _⟩) (v := ?_) rfl (by kernel_rfl) (by kernel_rfl) (by kernel_rfl) (fun _ _ _ h => h) (Or.inl ⟨by rfl, ?_⟩) (by assumption) ?_
              rotate_left
              · intro W hSW; go_simp; try with_reducible rfl
              try simp only [Act.put, List.setIfInBounds_toArray, List.set_cons_zero, List.set_cons_succ]
              refine wpAnyH_take (i := 5) (oi := ⟨_, _, _, _, _, _⟩) (v := ?_) rfl (by kernel_rfl) (by kernel_rfl) (by kernel_rfl) (fun _ _ _ h => h) (Or.inl ⟨by rfl, ?_⟩) (by assumption) ?_
              rotate_left
              · intro W hSW; go_simp; try with_reducible rfl
              try simp only [Act.put, List.setIfInBounds_toArray, List.set_cons_zero, List.set_cons_succ]
              refine wpAnyH_take (i := 6) (oi := ⟨_, _, _, _, _, _⟩) (v := ?_) rfl (by kernel_rfl) (by kernel_rfl) (by kernel_rfl) (fun _ _ _ h => h) (Or.inl ⟨by rfl, ?_⟩) (by assumption) ?_
              rotate_left
              · intro W hSW; go_simp; try with_reducible rfl
              try simp only [Act.put, List.setIfInBounds_toArray, List.set_cons_zero, List.set_cons_succ]
              refine wpAnyH_take (i := 7) (oi := ⟨_, _, _, _, _, _⟩) (v := ?_) rfl (by kernel_rfl) (by kernel_rfl) (by kernel_rfl) (fun _ _ _ h => h) (Or.inl ⟨by rfl, ?_⟩) (by assumption) ?_
              rotate_left
              · intro W hSW; refine exec_load_mid 30 (.tmp 42) ?_ b1 (o1 + k * 34) ?_ (cells x.adr.1) _ (range_belowE r1.out hSW hb1d) Try.underlying30 rfl HszX.out <;> rfl
              try simp only [Act.put, List.setIfInBounds_toArray, List.set_cons_zero, List.set_cons_succ]
              refine wpAnyH_take (i := 8) (oi := ⟨_, _, _, _, _, _⟩) (v := ?_) rfl (by kernel_rfl) (by kernel_rfl) (by kernel_rfl) (fun _ _ _ h => h) (Or.inl ⟨by rfl, ?_⟩) (by assumption) ?_
              rotate_left
              · intro W hSW; go_simp; try with_reducible rfl
              try simp only [Act.put, List.setIfInBounds_toArray, List.set_cons_zero, List.set_cons_succ]
              refine wpAnyH_take (i := 9) (oi := ⟨_, _, _, _, _, _⟩) (v := ?_) rfl (by kernel_rfl) (by kernel_rfl) (by kernel_rfl) (fun _ _ _ h => h) (Or.inl ⟨by rfl, ?_⟩) (by assumption) ?_
              rotate_left
              · intro W hSW; refine exec_load_mid 30 (.tmp 44) ?_ N 0 ?_ (cells e.adr.1) _ (range_belowE q5.out hSW hNd) Try.underlying30 rfl HszE.out <;> rfl
              try simp only [Act.put, List.setIfInBounds_toArray, List.set_cons_zero, List.set_cons_succ]
              refine wpAnyH_ready (rs := [10]) (by kernel_rfl) (by simp) ?_
              refine AllReadyH.cons (o := ⟨_, _, _, _, _, _⟩) rfl (fun K hK => ?_) AllReadyH.nil
              go_simp
              refine (rless_any x.adr.1 e.adr.1 x.adr.2 e.adr.2 _).mono ?_
              rintro e wx ⟨rfl, hb⟩
              try simp only []
              have hSwx := hSc.trans (hb.mono hSc.size)
              refine hK.out _ _ hSwx (fun hHeld => ?_)
              clear hK K hb hSc
              have hSc := hSwx
              clear hSwx
              try simp only [Act.put, List.setIfInBounds_toArray, List.set_cons_zero, List.set_cons_succ]
              refine wpAnyH_take (i := 11) (oi := ⟨_, _, _, _, _, _⟩) (v := ?_) rfl (by kernel_rfl) (by kernel_rfl) (by kernel_rfl) (fun _ _ _ h => h) (Or.inl ⟨by rfl, ?_⟩) (by assumption) ?_
              rotate_left
              · intro W hSW; go_simp; try with_reducible rfl
              try simp only [Act.put, List.setIfInBounds_toArray, List.set_cons_zero, List.set_cons_succ]
              refine wpAnyH_take (i := 12) (oi := ⟨_, _, _, _, _, _⟩) (v := ?_) rfl (by kernel_rfl) (by kernel_rfl) (by kernel_rfl) (fun _ _ _ h => h) (Or.inl ⟨by rfl, ?_⟩) (by assumption) ?_
              rotate_left
              · intro W hSW; go_simp; try with_reducible rfl
              try simp only [Act.put, List.setIfInBounds_toArray, List.set_cons_zero, List.set_cons_succ]
              refine wpAnyH_done (by kernel_rfl) ?_ _
              have HO2 : Hid (wx.ownsRow (N + 1) 32 34 u9 o.length (ents o)) := own_below HOd.out hSc
              have HR2 : Hid (RowV wx N 32 e.cs) := HRd.out.below hNd hSc
              have HB2 : Hid (Below N w wx) := HBd.out.trans (hSc.mono (by omega))
              have R2 := Lib.hid (range_belowE r2.out hSc hb1d)
              have hz2 : N + 1 ≤ wx.heap.size := by have := hSc.size; omega
              have QE := Lib.hid (row_range HR2.out)
              clear HOd HRd HBd r1 r2 q5 hSc hb1d hNd hzd hHeld
              cases hless : Op.bytesLess x.adr.1 e.adr.1
              · have hlo : o.length + 1 ≤ k + 2 := by omega
                by_cases ha : x.adr = e.adr
                · have hkk : kk = (k : Int) := by have := H3.out k x Hx.out; rw [decide_eq_true ha, beq_iff_eq] at this; exact this.symm
                  have HF1 : Hid (foldR e (l.take (k + 1)) = (o ++ [e], true)) := by
                    show _ = _
                    rw [take_snoc Hx.out, foldR_snoc, HF.out]
                    rw [stepR_put ⟨rfl, hless⟩, if_pos ha]
                  have HLn1 : Hid ((o ++ [e]).length ≤ k + 1 + 1) := lenF HF1.out
                  subst hkk
                  go_wp2_with (first
                    | ((with_reducible refine at_load 32 ?_); refine wpList_load_mid rfl 32 _ rfl N 0 rfl e.cs _ QE.out Try.underlying32 rfl Hse.out ?_)
                    | ((with_reducible refine at_buildSlice 22 ?_); refine wpList_buildSlice_oneV rfl 22 32 _ rfl e.cs rfl Try.underlying22 Try.infoE (Ent.cs_length _) (by decide) (by decide) ?_; intro waA hraA hbaA hsaA; have HOaA := Lib.hid (own_below HO2.out hbaA))
                    | (at_builtin; refine wpList_append_one rfl _ _ 22 rfl (N + 1) 32 Try.underlying22 Try.infoE rfl (by decide) _ _ _ rfl HOaA.out _ e.cs rfl hraA (Ent.cs_length _) (Ent.one _) (by unfold maxLen; omega) (by omega) (by omega) ?_; intro vA wbA hownbA hgbA hwhbA; have HOA : Hid (wbA.ownsRow (N + 1) 32 34 vA (o ++ [e]).length (ents (o ++ [e]))) := (by rw [List.length_append, ents_snoc]; exact hownbA); have HB0A : Hid (Below N wx wbA) := (hbaA.mono (by omega)).grown hgbA (by omega) (fun g e => by have := own_ge HOaA.out g e; omega); have HRA : Hid (RowV wbA N 32 e.cs) := (HR2.out.below (by omega) hbaA).keep hgbA (fun e => by have := own_ge HOaA.out _ e; omega); have HBA : Hid (Below N w wbA) := HB2.out.trans HB0A.out; have HZA : N + 1 ≤ wbA.heap.size := (by have := hgbA.size; omega); have RA := Lib.hid (range_belowE R2.out HB0A.out hb1); clear hownbA hgbA hwhbA))
                  go_roundw
                  case rel => exact ⟨k + 1, o ++ [e], true, by omega, by go_num, rfl, HF1, HLn1, HOA, HRA, HBA, HZA⟩
                  case measure => simp [intOf]; omega
                · skip
                  have hkk : ((k : Int) == kk) = false := by rw [H3.out k x Hx.out]; exact decide_eq_false ha
                  have hkk2 : ¬ ((k : Int) = kk) := by rw [beq_eq_false_iff_ne] at hkk; exact hkk
                  have HF1 : Hid (foldR e (l.take (k + 1)) = (o ++ [e] ++ [x], true)) := by
                    show _ = _
                    rw [take_snoc Hx.out, foldR_snoc, HF.out]
                    rw [stepR_put ⟨rfl, hless⟩, if_neg ha]
                  have HLn1 : Hid ((o ++ [e] ++ [x]).length ≤ k + 1 + 1) := lenF HF1.out
                  have hlo : (o ++ [e]).length ≤ k + 2 := by (simp only [List.length_append, List.length_singleton]; omega)
                  go_wp2_with (first
                    | ((with_reducible refine at_load 32 ?_); refine wpList_load_mid rfl 32 _ rfl N 0 rfl e.cs _ QE.out Try.underlying32 rfl Hse.out ?_)
                    | ((with_reducible refine at_buildSlice 22 ?_); refine wpList_buildSlice_oneV rfl 22 32 _ rfl e.cs rfl Try.underlying22 Try.infoE (Ent.cs_length _) (by decide) (by decide) ?_; intro waA hraA hbaA hsaA; have HOaA := Lib.hid (own_below HO2.out hbaA))
                    | (at_builtin; refine wpList_append_one rfl _ _ 22 rfl (N + 1) 32 Try.underlying22 Try.infoE rfl (by decide) _ _ _ rfl HOaA.out _ e.cs rfl hraA (Ent.cs_length _) (Ent.one _) (by unfold maxLen; omega) (by omega) (by omega) ?_; intro vA wbA hownbA hgbA hwhbA; have HOA : Hid (wbA.ownsRow (N + 1) 32 34 vA (o ++ [e]).length (ents (o ++ [e]))) := (by rw [List.length_append, ents_snoc]; exact hownbA); have HB0A : Hid (Below N wx wbA) := (hbaA.mono (by omega)).grown hgbA (by omega) (fun g e => by have := own_ge HOaA.out g e; omega); have HRA : Hid (RowV wbA N 32 e.cs) := (HR2.out.below (by omega) hbaA).keep hgbA (fun e => by have := own_ge HOaA.out _ e; omega); have HBA : Hid (Below N w wbA) := HB2.out.trans HB0A.out; have HZA : N + 1 ≤ wbA.heap.size := (by have := hgbA.size; omega); have RA := Lib.hid (range_belowE R2.out HB0A.out hb1); clear hownbA hgbA hwhbA)
                    | ((with_reducible refine at_load 32 ?_); refine wpList_load_mid rfl 32 _ rfl b1 (o1 + k * 34) rfl x.cs _ RA.out Try.underlying32 rfl Hsx.out ?_)
                    | ((with_reducible refine at_buildSlice 22 ?_); refine wpList_buildSlice_oneV rfl 22 32 _ rfl x.cs rfl Try.underlying22 Try.infoE (Ent.cs_length _) (by decide) (by decide) ?_; intro waB hraB hbaB hsaB; have HOaB := Lib.hid (own_below HOA.out hbaB))
                    | (at_builtin; refine wpList_append_one rfl _ _ 22 rfl (N + 1) 32 Try.underlying22 Try.infoE rfl (by decide) _ _ _ rfl HOaB.out _ x.cs rfl hraB (Ent.cs_length _) (Ent.one _) (by unfold maxLen; omega) (by omega) (by omega) ?_; intro vB wbB hownbB hgbB hwhbB; have HOB : Hid (wbB.ownsRow (N + 1) 32 34 vB (o ++ [e] ++ [x]).length (ents (o ++ [e] ++ [x]))) := (by rw [List.length_append, ents_snoc]; exact hownbB); have HB0B : Hid (Below N wbA wbB) := (hbaB.mono (by omega)).grown hgbB (by omega) (fun g e => by have := own_ge HOaB.out g e; omega); have HRB : Hid (RowV wbB N 32 e.cs) := (HRA.out.below (by omega) hbaB).keep hgbB (fun e => by have := own_ge HOaB.out _ e; omega); have HBB : Hid (Below N w wbB) := HBA.out.trans HB0B.out; have HZB : N + 1 ≤ wbB.heap.size := (by have := hgbB.size; omega); clear hownbB hgbB hwhbB))
                  go_roundw
                  case rel => exact ⟨k + 1, o ++ [e] ++ [x], true, by omega, by go_num, rfl, HF1, HLn1, HOB, HRB, HBB, HZB⟩
                  case measure => simp [intOf]; omega
              · skip
                by_cases ha : x.adr = e.adr
                · have hkk : kk = (k : Int) := by have := H3.out k x Hx.out; rw [decide_eq_true ha, beq_iff_eq] at this; exact this.symm
                  have HF1 : Hid (foldR e (l.take (k + 1)) = (o, false)) := by
                    show _ = _
                    rw [take_snoc Hx.out, foldR_snoc, HF.out]
                    rw [stepR_keep (by rw [hless]; simp), if_pos ha]
                  have HLn1 : Hid ((o).length ≤ k + 1 + 1) := lenF HF1.out
                  subst hkk
                  go_wp2_with fail
                  go_roundw
                  case rel => exact ⟨k + 1, o, false, by omega, by go_num, rfl, HF1, HLn1, HO2, HR2, HB2, hz2⟩
                  case measure => simp [intOf]; omega
                · skip
                  have hkk : ((k : Int) == kk) = false := by rw [H3.out k x Hx.out]; exact decide_eq_false ha
                  have hkk2 : ¬ ((k : Int) = kk) := by rw [beq_eq_false_iff_ne] at hkk; exact hkk
                  have HF1 : Hid (foldR e (l.take (k + 1)) = (o ++ [x], false)) := by
                    show _ = _
                    rw [take_snoc Hx.out, foldR_snoc, HF.out]
                    rw [stepR_keep (by rw [hless]; simp), if_neg ha]
                  have HLn1 : Hid ((o ++ [x]).length ≤ k + 1 + 1) := lenF HF1.out
                  have hlo : (o).length ≤ k + 2 := by omega
                  go_wp2_with (first
                    | ((with_reducible refine at_load 32 ?_); refine wpList_load_mid rfl 32 _ rfl b1 (o1 + k * 34) rfl x.cs _ R2.out Try.underlying32 rfl Hsx.out ?_)
                    | ((with_reducible refine at_buildSlice 22 ?_); refine wpList_buildSlice_oneV rfl 22 32 _ rfl x.cs rfl Try.underlying22 Try.infoE (Ent.cs_length _) (by decide) (by decide) ?_; intro waB hraB hbaB hsaB; have HOaB := Lib.hid (own_below HO2.out hbaB))
                    | (at_builtin; refine wpList_append_one rfl _ _ 22 rfl (N + 1) 32 Try.underlying22 Try.infoE rfl (by decide) _ _ _ rfl HOaB.out _ x.cs rfl hraB (Ent.cs_length _) (Ent.one _) (by unfold maxLen; omega) (by omega) (by omega) ?_; intro vB wbB hownbB hgbB hwhbB; have HOB : Hid (wbB.ownsRow (N + 1) 32 34 vB (o ++ [x]).length (ents (o ++ [x]))) := (by rw [List.length_append, ents_snoc]; exact hownbB); have HB0B : Hid (Below N wx wbB) := (hbaB.mono (by omega)).grown hgbB (by omega) (fun g e => by have := own_ge HOaB.out g e; omega); have HRB : Hid (RowV wbB N 32 e.cs) := (HR2.out.below (by omega) hbaB).keep hgbB (fun e => by have := own_ge HOaB.out _ e; omega); have HBB : Hid (Below N w wbB) := HB2.out.trans HB0B.out; have HZB : N + 1 ≤ wbB.heap.size := (by have := hgbB.size; omega); clear hownbB hgbB hwhbB))
                  go_roundw
                  case rel => exact ⟨k + 1, o ++ [x], false, by omega, by go_num, rfl, HF1, HLn1, HOB, HRB, HBB, HZB⟩
                  case measure => simp [intOf]; omega
            · go_wp2_with fail
              obtain ⟨wd, hwd⟩ : ∃ wd, wr.drew = wd := ⟨_, rfl⟩
              have hSc : Below wd.heap.size wd wr.drew := by rw [hwd]; exact Below.refl _ _
              refine wp_region_held_drew (S := fun W => Below wd.heap.size wd W) (by kernel_rfl) hSc (fun hHeld => ?_)
              have HOd : Hid (wr.drew.ownsRow (N + 1) 32 34 u9 o.length (ents o)) := HO.out.drew
              have HRd : Hid (RowV wr.drew N 32 e.cs) := HR.out.drew
              have HBd : Hid (Below N w wr.drew) := HB.out.drew
              have r1 : Hid (wr.drew.rangeAt b1 (o1 + k * 34) (cells x.adr.1)) := Rx.out
              have r2 : Hid (wr.drew.rangeAt b1 (o1 + k * 34) x.cs) := Rf.out
              have hzd : N + 1 ≤ wr.drew.heap.size := hz
              rw [hwd] at hSc hHeld HOd HRd HBd r1 r2 hzd ⊢
              clear hwd HO HR HB Rx Rf hz
              have hb1d : b1 < wd.heap.size := by omega
              have hNd : N < wd.heap.size := by omega
              have q5 : Hid (wd.rangeAt N 0 (cells e.adr.1)) := adr_of (row_range HRd.out)
              refine wpAnyH_take (i := 0) (oi := ⟨_, _, _, _, _, _⟩) (v := ?_) rfl (by kernel_rfl) (by kernel_rfl) (by kernel_rfl) (fun _ _ _ h => h) (Or.inl ⟨by rfl, ?_⟩) (by assumption) ?_
              rotate_left
              · intro W hSW; go_simp; try with_reducible rfl
              try simp only [Act.put, List.setIfInBounds_toArray, List.set_cons_zero, List.set_cons_succ]
              refine wpAnyH_take (i := 1) (oi := ⟨_, _, _, _, _, _⟩) (v := ?_) rfl (by kernel_rfl) (by kernel_rfl) (by kernel_rfl) (fun _ _ _ h => h) (Or.inl ⟨by rfl, ?_⟩) (by assumption) ?_
              rotate_left
              · intro W hSW; go_simp; try with_reducible rfl
              try simp only [Act.put, List.setIfInBounds_toArray, List.set_cons_zero, List.set_cons_succ]
              refine wpAnyH_take (i := 2) (oi := ⟨_, _, _, _, _, _⟩) (v := ?_) rfl (by kernel_rfl) (by kernel_rfl) (by kernel_rfl) (fun _ _ _ h => h) (Or.inl ⟨by rfl, ?_⟩) (by assumption) ?_
              rotate_left
              · intro W hSW; go_simp; try with_reducible rfl
              try simp only [Act.put, List.setIfInBounds_toArray, List.set_cons_zero, List.set_cons_succ]
              refine wpAnyH_take (i := 3) (oi := ⟨_, _, _, _, _, _⟩) (v := undef) rfl (by kernel_rfl) (by kernel_rfl) (by kernel_rfl) (fun _ _ _ h => h) (Or.inr ⟨by rfl, rfl⟩) (by assumption) ?_
              try simp only [Act.put, List.setIfInBounds_toArray, List.set_cons_zero, List.set_cons_succ]
              refine wpAnyH_take (i := 4) (oi := ⟨_, _, _, _, _, _⟩) (v := undef) rfl (by kernel_rfl) (by kernel_rfl) (by kernel_rfl) (fun _ _ _ h => h) (Or.inr ⟨by rfl, rfl⟩) (by assumption) ?_
              try simp only [Act.put, List.setIfInBounds_toArray, List.set_cons_zero, List.set_cons_succ]
              refine wpAnyH_take (i := 5) (oi := ⟨_, _, _, _, _, _⟩) (v := undef) rfl (by kernel_rfl) (by kernel_rfl) (by kernel_rfl) (fun _ _ _ h => h) (Or.inr ⟨by rfl, rfl⟩) (by assumption) ?_
              try simp only [Act.put, List.setIfInBounds_toArray, List.set_cons_zero, List.set_cons_succ]
              refine wpAnyH_take (i := 6) (oi := ⟨_, _, _, _, _, _⟩) (v := undef) rfl (by kernel_rfl) (by kernel_rfl) (by kernel_rfl) (fun _ _ _ h => h) (Or.inr ⟨by rfl, rfl⟩) (by assumption) ?_
              try simp only [Act.put, List.setIfInBounds_toArray, List.set_cons_zero, List.set_cons_succ]
              refine wpAnyH_take (i := 7) (oi := ⟨_, _, _, _, _, _⟩) (v := undef) rfl (by kernel_rfl) (by kernel_rfl) (by kernel_rfl) (fun _ _ _ h => h) (Or.inr ⟨by rfl, rfl⟩) (by assumption) ?_
              try simp only [Act.put, List.setIfInBounds_toArray, List.set_cons_zero, List.set_cons_succ]
              refine wpAnyH_take (i := 8) (oi := ⟨_, _, _, _, _, _⟩) (v := undef) rfl (by kernel_rfl) (by kernel_rfl) (by kernel_rfl) (fun _ _ _ h => h) (Or.inr ⟨by rfl, rfl⟩) (by assumption) ?_
              try simp only [Act.put, List.setIfInBounds_toArray, List.set_cons_zero, List.set_cons_succ]
              refine wpAnyH_take (i := 9) (oi := ⟨_, _, _, _, _, _⟩) (v := undef) rfl (by kernel_rfl) (by kernel_rfl) (by kernel_rfl) (fun _ _ _ h => h) (Or.inr ⟨by rfl, rfl⟩) (by assumption) ?_
              try simp only [Act.put, List.setIfInBounds_toArray, List.set_cons_zero, List.set_cons_succ]
              refine wpAnyH_take (i := 10) (oi := ⟨_, _, _, _, _, _⟩) (v := undef) rfl (by kernel_rfl) (by kernel_rfl) (by kernel_rfl) (fun _ _ _ h => h) (Or.inr ⟨by rfl, rfl⟩) (by assumption) ?_
              try simp only [Act.put, List.setIfInBounds_toArray, List.set_cons_zero, List.set_cons_succ]
              refine wpAnyH_take (i := 11) (oi := ⟨_, _, _, _, _, _⟩) (v := undef) rfl (by kernel_rfl) (by kernel_rfl) (by kernel_rfl) (fun _ _ _ h => h) (Or.inr ⟨by rfl, rfl⟩) (by assumption) ?_
              try simp only [Act.put, List.setIfInBounds_toArray, List.set_cons_zero, List.set_cons_succ]
              refine wpAnyH_take (i := 12) (oi := ⟨_, _, _, _, _, _⟩) (v := ?_) rfl (by kernel_rfl) (by kernel_rfl) (by kernel_rfl) (fun _ _ _ h => h) (Or.inl ⟨by rfl, ?_⟩) (by assumption) ?_
              rotate_left
              · intro W hSW; go_simp; try with_reducible rfl
              try simp only [Act.put, List.setIfInBounds_toArray, List.set_cons_zero, List.set_cons_succ]
              refine wpAnyH_done (by kernel_rfl) ?_ _
              obtain ⟨wx, hwx⟩ : ∃ wx, wd = wx := ⟨_, rfl⟩
              have hSx : Below wd.heap.size wd wd := Below.refl _ _
              clear r1 q5 hSc hSx hwx hHeld
              have hz2 : N + 1 ≤ wd.heap.size := hzd
              by_cases ha : x.adr = e.adr
              · have hkk : kk = (k : Int) := by have := H3.out k x Hx.out; rw [decide_eq_true ha, beq_iff_eq] at this; exact this.symm
                have HF1 : Hid (foldR e (l.take (k + 1)) = (o, true)) := by
                  show _ = _
                  rw [take_snoc Hx.out, foldR_snoc, HF.out]
                  rw [stepR_keep (by simp), if_pos ha]
                have HLn1 : Hid ((o).length ≤ k + 1 + 1) := lenF HF1.out
                subst hkk
                go_wp2_with fail
                go_roundw
                case rel => exact ⟨k + 1, o, true, by omega, by go_num, rfl, HF1, HLn1, HOd, HRd, HBd, hz2⟩
                case measure => simp [intOf]; omega
              · skip
                have hkk : ((k : Int) == kk) = false := by rw [H3.out k x Hx.out]; exact decide_eq_false ha
                have hkk2 : ¬ ((k : Int) = kk) := by rw [beq_eq_false_iff_ne] at hkk; exact hkk
                have HF1 : Hid (foldR e (l.take (k + 1)) = (o ++ [x], true)) := by
                  show _ = _
                  rw [take_snoc Hx.out, foldR_snoc, HF.out]
                  rw [stepR_keep (by simp), if_neg ha]
                have HLn1 : Hid ((o ++ [x]).length ≤ k + 1 + 1) := lenF HF1.out
                have hlo : (o).length ≤ k + 2 := by omega
                go_wp2_with (first
                  | ((with_reducible refine at_load 32 ?_); refine wpList_load_mid rfl 32 _ rfl b1 (o1 + k * 34) rfl x.cs _ r2.out Try.underlying32 rfl Hsx.out ?_)
                  | ((with_reducible refine at_buildSlice 22 ?_); refine wpList_buildSlice_oneV rfl 22 32 _ rfl x.cs rfl Try.underlying22 Try.infoE (Ent.cs_length _) (by decide) (by decide) ?_; intro waB hraB hbaB hsaB; have HOaB := Lib.hid (own_below HOd.out hbaB))
                  | (at_builtin; refine wpList_append_one rfl _ _ 22 rfl (N + 1) 32 Try.underlying22 Try.infoE rfl (by decide) _ _ _ rfl HOaB.out _ x.cs rfl hraB (Ent.cs_length _) (Ent.one _) (by unfold maxLen; omega) (by omega) (by omega) ?_; intro vB wbB hownbB hgbB hwhbB; have HOB : Hid (wbB.ownsRow (N + 1) 32 34 vB (o ++ [x]).length (ents (o ++ [x]))) := (by rw [List.length_append, ents_snoc]; exact hownbB); have HB0B : Hid (Below N wd wbB) := (hbaB.mono (by omega)).grown hgbB (by omega) (fun g e => by have := own_ge HOaB.out g e; omega); have HRB : Hid (RowV wbB N 32 e.cs) := (HRd.out.below (by omega) hbaB).keep hgbB (fun e => by have := own_ge HOaB.out _ e; omega); have HBB : Hid (Below N w wbB) := HBd.out.trans HB0B.out; have HZB : N + 1 ≤ wbB.heap.size := (by have := hgbB.size; omega); clear hownbB hgbB hwhbB))
                go_roundw
                case rel => exact ⟨k + 1, o ++ [x], true, by omega, by go_num, rfl, HF1, HLn1, HOB, HRB, HBB, HZB⟩
                case measure => simp [intOf]; omega
          · obtain rfl : k = n := by omega
            have hfin : foldR e l = (o, p) := by have := HF.out; rw [List.take_of_length_le (by rw [Hn.out]; exact Nat.le_refl _)] at this; exact this
            have QE := Lib.hid (row_range HR.out)
            have hz2 := HZ.out
            cases p
            · have Hp : Hid (RPutP l tn e 0 (o ++ [e])) := H2.out _ (by unfold putR endR; rw [hfin]; rfl)
              clear hfin
              go_wp2_with (first
                | ((with_reducible refine at_load 32 ?_); refine wpList_load_mid rfl 32 _ rfl N 0 rfl e.cs _ QE.out Try.underlying32 rfl Hse.out ?_)
                | ((with_reducible refine at_buildSlice 22 ?_); refine wpList_buildSlice_oneV rfl 22 32 _ rfl e.cs rfl Try.underlying22 Try.infoE (Ent.cs_length _) (by decide) (by decide) ?_; intro waA hraA hbaA hsaA; have HOaA := Lib.hid (own_below HO.out hbaA))
                | (at_builtin; refine wpList_append_one rfl _ _ 22 rfl (N + 1) 32 Try.underlying22 Try.infoE rfl (by decide) _ _ _ rfl HOaA.out _ e.cs rfl hraA (Ent.cs_length _) (Ent.one _) (by unfold maxLen; omega) (by omega) (by omega) ?_; intro vA wbA hownbA hgbA hwhbA; have HOA : Hid (wbA.ownsRow (N + 1) 32 34 vA (o ++ [e]).length (ents (o ++ [e]))) := (by rw [List.length_append, ents_snoc]; exact hownbA); have HB0A : Hid (Below N wr wbA) := (hbaA.mono (by omega)).grown hgbA (by omega) (fun g e => by have := own_ge HOaA.out g e; omega); have HRA : Hid (RowV wbA N 32 e.cs) := (HR.out.below (by omega) hbaA).keep hgbA (fun e => by have := own_ge HOaA.out _ e; omega); have HBA : Hid (Below N w wbA) := HB.out.trans HB0A.out; have HZA : N + 1 ≤ wbA.heap.size := (by have := hgbA.size; omega); clear hownbA hgbA hwhbA))
              go_ret2
              exact ⟨0, o ++ [e], _, rfl, RowE.own HOA.out, .inr (fun g e => by have : N + 1 ≤ g := own_ge HOA.out g e; omega), Hp.out, by rw [hN]; exact HBA.out⟩
            · have Hp : Hid (RPutP l tn e 0 o) := H2.out _ (by unfold putR endR; rw [hfin]; rfl)
              clear hfin
              go_wp2_with fail
              go_ret2
              exact ⟨0, o, _, rfl, RowE.own HO.out, .inr (fun g e => by have : N + 1 ≤ g := own_ge HO.out g e; omega), Hp.out, by rw [hN]; exact HB.out⟩
  · rw [decide_eq_false hok]
    have Hp : Hid (RPutP l tn e 2 l) := .inl ⟨hok, rfl, rfl⟩
    go_wp2_with fail
    go_ret2
    exact ⟨2, l, _, rfl, HRow.out _ HB2.out, .inl rfl, Hp.out, HB2.out⟩
end Go.Proofs.Ytiglffkbaddefaa
namespace Go.Proofs.Ytiglffkbaddefaa
open Go.RowKit
set_option linter.unusedVariables false
set_option linter.unusedSimpArgs false

theorem wpList_append_range {P : Program} {w : World} {ops : Array Oper} {rest : List Oper} {o : Oper} {a : Act} {Q : Exit → Act → World → Prop} (hgd : o.guard = none) (s x : Operand) (t : TypeId) (ho : o.op = .call { callee := .builtin .append, args := #[s, x], argTypes := #[t, t] })
    (base : Nat) (e : TypeId) {z : Value} {size bytes : Nat} (ht : P.underlying t = some (.slice e)) (hi : (P.info? e).map (fun i => (i.zero, i.size, i.bytes)) = some (some z, size, bytes)) (hzs : z.cells.size = size) (hsz : 0 < size)
    (v : Value) (n : Nat) (xs : List Value) (hs : a.eval s = v) (hown : w.ownsRow base e size v n xs)
    (b k m c : Nat) (ys : List Value) (hx : a.eval x = .slice (some ⟨b, k, none⟩) m c) (hl : ys.length = m * size) (hr : w.rangeAt b k ys) (h1 : ∀ u ∈ ys, u.oneCell' = true)
    (h63 : n + m ≤ maxLen) (hbytes : (n + m) * bytes ≤ 140737488355328) (hbase : base ≤ w.heap.size)
    (h : ∀ v' w', w'.ownsRow base e size v' (n + m) (xs ++ ys) → w.grownBy w' v.ownBlock → wpList P ops Q rest (a.put o.dst v') w') : wpList P ops Q (o :: rest) a w := by
  obtain ⟨i, hie, hz, hs1, hb1⟩ := info_parts hi
  exact wpList_append_own_at w hgd s x t ho base e i z size bytes ht hie hz hs1 hb1 hzs hsz v n xs hs hown ⟨b, k, none⟩ m c ys hx hl (fun j u hj => by rw [Addr.add_lit]; exact hr j u hj) h1 h63 hbytes hbase (fun v' w' a1 a2 _ _ => h v' w' a1 a2)
theorem lies_rangeE {w : World} {B : Nat} {A : Option Addr} {l : List Ent} (h : LiesV w B A (ents l)) (hl : 0 < l.length) : ∃ b o, A = some ⟨b, o, none⟩ ∧ b < B ∧ w.rangeAt b o (ents l) := by
  obtain ⟨b, o, hA, hb, hc⟩ := h (fun e0 => by have := congrArg List.length e0; rw [ents_length] at this; simp only [List.length_nil] at this; omega)
  exact ⟨b, o, hA, hb, hc⟩
theorem range_take {w : World} {b o : Nat} {l : List Ent} (h : w.rangeAt b o (ents l)) (k : Nat) : w.rangeAt b o (ents (l.take k)) := by
  intro j v hj
  refine h j v ?_
  conv => lhs; rw [← List.take_append_drop k l, ents_append]
  rw [List.getElem?_append_left (List.getElem?_eq_some_iff.1 hj).1]
  exact hj
theorem range_drop {w : World} {b o : Nat} {l : List Ent} (h : w.rangeAt b o (ents l)) {k : Nat} (hk : k ≤ l.length) : w.rangeAt b (o + k * 34) (ents (l.drop k)) := by
  intro j v hj
  have hlen : (ents (l.take k)).length = k * 34 := by rw [ents_length, List.length_take, Nat.min_eq_left hk]
  rw [Nat.add_assoc]
  refine h (k * 34 + j) v ?_
  conv => lhs; rw [← List.take_append_drop k l, ents_append]
  rw [List.getElem?_append_right (by omega), hlen, Nat.add_sub_cancel_left]
  exact hj
end Go.Proofs.Ytiglffkbaddefaa
namespace Go.Proofs.Ytiglffkbaddefaa
open Go.RowKit
set_option linter.unusedVariables false
set_option linter.unusedSimpArgs false

/-- Places that are a table's. -/
def TabOK (l : List Ent) : Prop := ∃ hn : 0 < l.length, l.length ≤ 406 ∧ Tb l.length hn l ∧ ∀ e ∈ l, e.count ≠ 0 → e.ok
/-- What the first k of l's places have made of a table. -/
structure Reads (n : Nat) (hn : 0 < n) (l : List Ent) (k : Nat) (l' : List Ent) : Prop where
  tb : Tb n hn l'
  ok : ∀ e ∈ l.take k, e ≠ zeroEnt → e.ok
  told : Tb n hn l → (∀ x : Ent, x.count ≠ 0 → (x ∈ l' ↔ x ∈ l.take k)) ∧ cntT l' = cntT (l.take k)
section
variable {n : Nat} {hn : 0 < n} {l l' l'' : List Ent} {k : Nat} {e : Ent}
theorem Reads.start (hn : 0 < n) (l : List Ent) : Reads n hn l 0 (List.replicate n zeroEnt) := by
  refine ⟨Tb.new n hn, by simp, fun _ => ⟨fun x hx => ?_, ?_⟩⟩
  · constructor
    · intro h; have := List.eq_of_mem_replicate h; subst this; exact absurd rfl hx
    · simp
  · simp [cntT, zeroEnt]
theorem Reads.skip (h : Reads n hn l k l') (he : l[k]? = some e) (hz : e = zeroEnt) : Reads n hn l (k + 1) l' := by
  have z0 : e.count = 0 := by rw [hz]; rfl
  refine ⟨h.tb, fun x hx hne => ?_, fun ht => ?_⟩
  · rw [take_snoc he] at hx
    rcases List.mem_append.1 hx with h1 | h1
    · exact h.ok x h1 hne
    · exact absurd (List.mem_singleton.1 h1 ▸ hz) hne
  · obtain ⟨a, b⟩ := h.told ht
    refine ⟨fun x hx => ?_, by rw [cntT_take he, if_pos z0, b]; rfl⟩
    rw [take_snoc he, List.mem_append, a x hx]
    constructor
    · exact .inl
    · rintro (h1 | h1)
      · exact h1
      · rw [List.mem_singleton.1 h1] at hx; exact absurd z0 hx
/-- No two of them have one address. -/
theorem Tb.before (ht : Tb n hn l) (he : l[k]? = some e) (hc : e.count ≠ 0) : ∀ x ∈ l.take k, x.count ≠ 0 → x.adr ≠ e.adr := by
  intro x hx hxc ha
  obtain ⟨j, hj, rfl⟩ := List.mem_iff_getElem.1 hx
  have hjk : j < k := by rw [List.length_take] at hj; omega
  have h1 : l[j]? = some (l.take k)[j] := by
    rw [List.getElem_take]
    exact List.getElem?_eq_getElem (by rw [List.length_take] at hj; omega)
  have := ht.same h1 he hxc hc ha
  omega
theorem Reads.put (h : Reads n hn l k l') (he : l[k]? = some e) (hne : e ≠ zeroEnt) {code : Int} (hp : PutP n hn l' e code l'') (hc : code = 0) : Reads n hn l (k + 1) l'' := by
  subst hc
  have key : e.ok ∧ ((cntT l'' = cntT l' ∧ ∃ f ∈ l', f.count ≠ 0 ∧ f.adr = e.adr) ∨ cntT l'' = cntT l' + 1) ∧ ∀ x : Ent, x.count ≠ 0 → (x ∈ l'' ↔ (x ∈ l' ∧ x.adr ≠ e.adr) ∨ x = e) := by
    rcases hp.what with ⟨_, h1, _⟩ | ⟨h1, h2, _, h3, h4⟩ | ⟨_, _, _, h1, _⟩ | ⟨h1, _, _, _, h3, h4⟩
    · cases h1
    · exact ⟨h1, .inl ⟨h3, h2⟩, h4⟩
    · cases h1
    · exact ⟨h1, .inr h3, h4⟩
  obtain ⟨k1, k2, k3⟩ := key
  refine ⟨hp.tb, fun x hx hxz => ?_, fun ht => ?_⟩
  · rw [take_snoc he] at hx
    rcases List.mem_append.1 hx with h1 | h1
    · exact h.ok x h1 hxz
    · rw [List.mem_singleton.1 h1]; exact k1
  · obtain ⟨a, b⟩ := h.told ht
    have hb := ht.before he k1.real
    have hno : ∀ f ∈ l', f.count ≠ 0 → f.adr ≠ e.adr := fun f hf hfc => hb f ((a f hfc).1 hf) hfc
    refine ⟨fun x hx => ?_, ?_⟩
    · rw [k3 x hx, take_snoc he, List.mem_append, List.mem_singleton, a x hx]
      constructor
      · exact fun h => h.imp (·.1) id
      · exact fun h => h.imp (fun h1 => ⟨h1, hb x h1 hx⟩) id
    · rw [cntT_take he, if_neg k1.real, ← b]
      rcases k2 with ⟨_, f, hf, hfc, hfa⟩ | h1
      · exact absurd hfa (hno f hf hfc)
      · exact h1
/-- A place that is not taken: then l is no table's. -/
theorem Reads.bad (h : Reads n hn l k l') (hl : l.length = n) (he : l[k]? = some e) (hne : e ≠ zeroEnt) {code : Int} (hp : PutP n hn l' e code l'') (hc : code ≠ 0) : ¬ (Tb n hn l ∧ ∀ e ∈ l, e.count ≠ 0 → e.ok) := by
  rintro ⟨ht, hok⟩
  have hm := List.mem_of_getElem? he
  have hce : e.count ≠ 0 := fun h0 => hne (ht.zero e hm h0)
  obtain ⟨a, b⟩ := h.told ht
  have hroom := ht.room
  have hcnt : cntT (l.take (k + 1)) ≤ cntT l := by
    have := List.take_append_drop (k + 1) l
    unfold cntT
    conv => rhs; rw [← this]
    rw [List.countP_append]
    omega
  rw [cntT_take he, if_neg hce] at hcnt
  rcases hp.what with ⟨h1, _⟩ | ⟨_, _, h1, _⟩ | ⟨_, _, h1, _⟩ | ⟨_, _, _, h1, _⟩
  · exact h1 (hok e hm hce)
  · exact hc h1
  · omega
  · exact hc h1
theorem Reads.same (h : Reads n hn l n l') (hl : l.length = n) (ht : Tb n hn l) : l' = l :=
  Tb.one h.tb ht fun x hx => by rw [(h.told ht).1 x hx, List.take_of_length_le (by omega)]
end

/-- What Of answers. -/
def OfP (w w' : World) (l : List Ent) (r : Ending) : Prop :=
  (TabOK l ∧ ∃ b g c, r = .returned (.tuple #[.pointer (some ⟨b, 0, none⟩), .bool true]) ∧ TabAt w' b g c l.length l ∧ w.heap.size ≤ b ∧ w.heap.size ≤ g) ∨ (¬ TabOK l ∧ r = .returned (.tuple #[.pointer none, .bool false]))

set_option maxRecDepth 100000 in
set_option maxHeartbeats 8000000 in
theorem tof_any (w : World) (B m c : Nat) (A : Option Addr) (l : List Ent) (h : LiesV w B A (ents l)) (hm : m = l.length) (hB : B ≤ w.heap.size) (hc : m ≤ c) (hle : m ≤ 1000) :
    Calls Try.prog 35 #[.slice A m c] w fun r w' => OfP w w' l r ∧ Below w.heap.size w w' := by
  have HL := Lib.hid h
  have Hm := Lib.hid hm
  clear h hm
  go_enter Try.func35, Try.ntmps35
  go_wp2_with fail
  refine (tnew_any w (m : Int)).mono ?_
  intro r w1 hnew
  by_cases hr : 1 ≤ (m : Int) ∧ (m : Int) ≤ 406
  · unfold New11V at hnew
    rw [if_pos hr, Int.toNat_natCast] at hnew
    obtain ⟨b, g, rfl, hT1, hb, hg, hb1⟩ := hnew
    have hn : 0 < m := by omega
    have HT1 := Lib.hid hT1
    have HS := Lib.hid (Reads.start hn l)
    have HB1 := Lib.hid hb1
    have hle2 : m ≤ 406 := by omega
    have hbl := hT1.blt
    have hgl := hT1.glt
    clear hT1 hb1
    obtain ⟨N, hN⟩ : ∃ N, w.heap.size = N := ⟨_, rfl⟩
    rw [hN] at hb hg HB1 hB
    have hz := build_ent0
    obtain ⟨N1, hN1⟩ : ∃ N1, w1.heap.size = N1 := ⟨_, rfl⟩
    have hN1' : N ≤ N1 := by have := HB1.out.size; omega
    go_wp2_with fail
    go_loopw [18] (fun v W => ∃ (k c' : Nat) (l' : List Ent), k ≤ m ∧ v = .int .i64 k ∧ Hid (Reads m hn l k l') ∧ Hid (TabAt W b g c' m l') ∧ Hid (Below N w W) ∧ Hid (N ≤ W.heap.size)) (fun v _ => m - (intOf v).toNat)
    case atStart => exact ⟨0, m, _, Nat.zero_le _, rfl, HS, HT1, HB1, by show _ ≤ _; omega⟩
    case round =>
      obtain ⟨k, c', l', hk, rfl, HK, HT, HB, HZ⟩ := hrel
      clear HT1 HS HB1
      by_cases hlt : k < m
      · have hlt' : (k : Int) < (m : Int) := by omega
        have hk0 : (0 : Int) ≤ (k : Int) := by omega
        obtain ⟨e, he⟩ : ∃ e, l[k]? = some e := ⟨_, List.getElem?_eq_getElem (by rw [← Hm.out]; exact hlt)⟩
        obtain ⟨ba, oa, hA, hba, hra⟩ := lies_ent (HL.out.below (HB.out.mono hB)) he
        subst hA
        have He := Lib.hid he
        have Hra := Lib.hid hra
        have Hse := Lib.hid (ent_size e)
        clear he hra
        obtain ⟨M, hM⟩ : ∃ M, wr.heap.size = M := ⟨_, rfl⟩
        have hNM : N ≤ M := by have := HZ.out; omega
        have hTlt : b < M ∧ g < M := by rw [← hM]; exact ⟨HT.out.blt, HT.out.glt⟩
        by_cases hez : e = zeroEnt
        · have HK1 := Lib.hid (HK.out.skip He.out hez)
          have Hez := Lib.hid hez
          clear hez
          go_wp2_with (first
            | ((with_reducible refine at_load 32 ?_); refine wpList_load_mid rfl 32 _ rfl ba (oa + k * 34) rfl e.cs _ Hra.out Try.underlying32 rfl Hse.out ?_)
            | ((with_reducible refine at_load 32 ?_); refine wpList_load_mid rfl 32 _ rfl M 0 rfl e.cs _ q4.out Try.underlying32 rfl Hse.out ?_)
            | ((with_reducible refine at_loadGR 32 ?_); refine wpList_load_midG rfl 32 _ rfl M 0 rfl e.cs _ q4.out Try.underlying32 rfl Hse.out ?_)
            | ((with_reducible refine at_alloc 32 ?_); refine wpList_alloc_rowV rfl 32 rfl zeroEnt.cs Try.zeroEnt11 ?_; intro w3 hr3 hb3 hs3; rw [hM] at hr3 hb3 ⊢)
            | ((with_reducible refine at_store 32 ?_); refine wpList_store_rowV rfl 32 _ _ rfl M e.cs rfl rfl 32 zeroEnt.cs hr3 (by rw [List.size_toArray]; exact ent_size _) (by rw [List.size_toArray, List.size_toArray, Ent.cs_length, Ent.cs_length]) (all_oneCell_toArray (Ent.one _)) ?_; intro w4 hr4 hg4 hs4; have q4 := Lib.hid (row_range hr4); have E4 := Lib.hid (eq_ent w4 e zeroEnt); rw [decide_eq_true Hez.out] at E4)
            | ((with_reducible refine at_build 32 ?_); refine wpList_build_to rfl 32 _ rfl zeroEnt.cs Try.builtE0 ?_)
            | ((with_reducible refine at_neqS 32 ?_); refine wpList_neqS rfl 32 _ _ 32 rfl (by kernel_rfl) (xs := e.cs.toArray) (ys := zeroEnt.cs.toArray) rfl rfl E4.out ?_))
          have hb4 : Below M wr w4 := below_grown hb3 hg4 (Nat.le_refl _) (by have := hb3.size; omega)
          have HT4 : Hid (TabAt w4 b g c' m l') := HT.out.below hb4 hTlt.1 hTlt.2
          have HB4 : Hid (Below N w w4) := HB.out.trans (hb4.mono hNM)
          have hN4 : N ≤ w4.heap.size := by have := hb4.size; omega
          clear HT HB hr3 hb3 hs3 hg4 hs4 hb4 hr4 q4 E4
          go_roundw
          case rel => exact ⟨k + 1, c', l', by omega, by go_num, HK1, HT4, HB4, hN4⟩
          case measure => simp [intOf]; omega
        · have Hez := Lib.hid hez
          clear hez
          go_wp2_with (first
            | ((with_reducible refine at_load 32 ?_); refine wpList_load_mid rfl 32 _ rfl ba (oa + k * 34) rfl e.cs _ Hra.out Try.underlying32 rfl Hse.out ?_)
            | ((with_reducible refine at_load 32 ?_); refine wpList_load_mid rfl 32 _ rfl M 0 rfl e.cs _ q4.out Try.underlying32 rfl Hse.out ?_)
            | ((with_reducible refine at_loadGR 32 ?_); refine wpList_load_midG rfl 32 _ rfl M 0 rfl e.cs _ q4.out Try.underlying32 rfl Hse.out ?_)
            | ((with_reducible refine at_alloc 32 ?_); refine wpList_alloc_rowV rfl 32 rfl zeroEnt.cs Try.zeroEnt11 ?_; intro w3 hr3 hb3 hs3; rw [hM] at hr3 hb3 ⊢)
            | ((with_reducible refine at_store 32 ?_); refine wpList_store_rowV rfl 32 _ _ rfl M e.cs rfl rfl 32 zeroEnt.cs hr3 (by rw [List.size_toArray]; exact ent_size _) (by rw [List.size_toArray, List.size_toArray, Ent.cs_length, Ent.cs_length]) (all_oneCell_toArray (Ent.one _)) ?_; intro w4 hr4 hg4 hs4; have q4 := Lib.hid (row_range hr4); have E4 := Lib.hid (eq_ent w4 e zeroEnt); rw [decide_eq_false Hez.out] at E4)
            | ((with_reducible refine at_build 32 ?_); refine wpList_build_to rfl 32 _ rfl zeroEnt.cs Try.builtE0 ?_)
            | ((with_reducible refine at_neqS 32 ?_); refine wpList_neqS rfl 32 _ _ 32 rfl (by kernel_rfl) (xs := e.cs.toArray) (ys := zeroEnt.cs.toArray) rfl rfl E4.out ?_))
          have hb4 : Below M wr w4 := below_grown hb3 hg4 (Nat.le_refl _) (by have := hb3.size; omega)
          have HT4 : Hid (TabAt w4 b g c' m l') := HT.out.below hb4 hTlt.1 hTlt.2
          have HB4 : Hid (Below N w w4) := HB.out.trans (hb4.mono hNM)
          have hN4 : N ≤ w4.heap.size := by have := hb4.size; omega
          clear HT HB hr3 hb3 hs3 hg4 hs4 hb4 hr4 q4 E4
          refine (tput_any w4 b g c' m hn l' HT4.out HK.out.tb e).mono ?_
          rintro r w5 ⟨code, l2, rfl, hT5, hp, hB5⟩
          have HT5 := Lib.hid hT5
          have HB5 : Hid (Below N w w5) := HB4.out.trans ((hB5.less hN4).below (fun k hk => by rw [List.mem_singleton.1 hk]; exact hg))
          have hN5 : N ≤ w5.heap.size := by have := hB5.size; omega
          clear hT5 hB5 HT4 HB4
          by_cases hcode : code = 0
          · have HK1 := Lib.hid (HK.out.put He.out Hez.out hp hcode)
            have hd : (code == 0) = true := by rw [beq_iff_eq]; exact hcode
            clear hp
            go_wp2_with fail
            go_roundw
            case rel => exact ⟨k + 1, c', l2, by omega, by go_num, HK1, HT5, HB5, hN5⟩
            case measure => simp [intOf]; omega
          · have hbad := HK.out.bad Hm.out.symm He.out Hez.out hp hcode
            have Hbad : Hid (¬ TabOK l) := by
              rintro ⟨_, _, h3, h4⟩
              obtain rfl := Hm.out
              exact hbad ⟨h3, h4⟩
            have hd : (code == 0) = false := by rw [beq_eq_false_iff_ne]; exact hcode
            clear hp hbad
            go_wp2_with fail
            go_ret2
            exact ⟨.inr ⟨Hbad.out, rfl⟩, by rw [hN]; exact HB5.out⟩
      · obtain rfl : k = m := by omega
        obtain ⟨A', c2, hv, -, hcap2, -, hl2⟩ := lies_ownE HT.out.row
        injection hv with e1 e2 e3
        subst e1 e3
        have c0 := HT.out.ptr.cell
        have HL2 := Lib.hid hl2
        have hlen' := Lib.hid HT.out.len
        have Hcap2 := Lib.hid hcap2
        clear hl2 hz hcap2 hlt hk
        have HL3 : Hid (LiesV wr wr.heap.size A (ents l)) := (HL.out.below (HB.out.mono hB)).le (by have := HZ.out; omega)
        have hk3 : k ≤ 9223372036854775807 := by omega
        go_wp2_with fail
        refine (equal11_any wr wr.heap.size k c' k c (some ⟨g, 0, none⟩) A l' l HL2.out HL3.out hlen'.out.symm Hm.out (Nat.le_refl _) hle hk3 Hcap2.out hc).mono ?_
        rintro r w3 ⟨rfl, hb3⟩
        have HT3 : Hid (TabAt w3 b g c' k l') := HT.out.later hb3
        have HB3 : Hid (Below N w w3) := HB.out.trans (hb3.mono HZ.out)
        clear hb3 HT HB
        by_cases heq : l' = l
        · rw [decide_eq_true heq]
          have Hok : Hid (TabOK l) := by
            obtain rfl := Hm.out
            refine ⟨hn, hle2, heq ▸ HK.out.tb, fun e he hce => HK.out.ok e (by rw [List.take_of_length_le (Nat.le_refl _)]; exact he) (fun h0 => ?_)⟩
            rw [h0] at hce
            exact hce rfl
          go_wp2_with fail
          go_ret2
          refine ⟨.inl ⟨Hok.out, b, g, c', rfl, ?_, by rw [hN]; exact hb, by rw [hN]; exact hg⟩, by rw [hN]; exact HB3.out⟩
          rw [← Hm.out]
          exact heq ▸ HT3.out
        · rw [decide_eq_false heq]
          have Hbad : Hid (¬ TabOK l) := by
            obtain rfl := Hm.out
            rintro ⟨_, _, h3, _⟩
            exact heq (HK.out.same rfl h3)
          go_wp2_with fail
          go_ret2
          exact ⟨.inr ⟨Hbad.out, rfl⟩, by rw [hN]; exact HB3.out⟩
  · unfold New11V at hnew
    rw [if_neg hr] at hnew
    obtain ⟨rfl, rfl⟩ := hnew
    have Hbad : Hid (¬ TabOK l) := by
      rintro ⟨h1, h2, _⟩
      exact hr (by rw [Hm.out]; omega)
    go_wp2_with fail
    go_ret2
    exact ⟨.inr ⟨Hbad.out, rfl⟩, Below.refl _ _⟩
end Go.Proofs.Ytiglffkbaddefaa
