/-
  Layer 11: the contract of Drop.
  Layer 11: the contracts of New, of slices.Clone at entries, Places, Copy.
  Layer 11: the contracts of Get, Slot, Longest.
  Layer 11: the contract of the reference's lay.
  Layer 11: the contract of Of.
  Layer 11: the contracts of the reference's Places and Entries.
  Layer 11: the contract of the reference's Entries.
  Layer 11: the contract of Longest.
  Layer 11: a checker for small tables; the table of the example; the laws' own at and size.
-/
import Derived.Test.YtkkllmjomdbndaaPkTabF
import Derived.Test.YtkkllmjomdbndaaPkClearS
import Derived.Test.YtkkllmjomdbndaaPkTabH
import Derived.Test.YtkkllmjomdbndaaPkTabQ
namespace Go.Proofs.Ytkkllmjomdbndaa
open Go.RowKit
set_option linter.unusedVariables false
set_option linter.unusedSimpArgs false

/-- What Drop makes of a table, and what it answers. -/
structure DropP (n : Nat) (hn : 0 < n) (l : List Ent) (a : Adr) (code : Int) (l' : List Ent) : Prop where
  tb : Tb n hn l'
  what : ((∃ f ∈ l, f.count ≠ 0 ∧ f.adr = a) ∧ code = 0 ∧ cntT l' + 1 = cntT l ∧ ∀ x : Ent, x.count ≠ 0 → (x ∈ l' ↔ x ∈ l ∧ x.adr ≠ a)) ∨
    ((∀ f ∈ l, f.count ≠ 0 → f.adr ≠ a) ∧ code = 8 ∧ l' = l)
/-- A removal under way: a hole at p; z is empty. -/
structure Shut (n : Nat) (hn : 0 < n) (S : Ent → Prop) (c z : Nat) (l : List Ent) (p : Nat) : Prop where
  del : Del n hn S c l p
  none_ : layT l z = none
  ne : z ≠ p
section
variable {n : Nat} {hn : 0 < n} {S : Ent → Prop} {c z : Nat} {l : List Ent} {f : Ent} {p : Nat}
theorem Del.spare (h : Del n hn S c l p) : ∃ z, z < n ∧ layT l z = none ∧ z ≠ p := by
  have hp : p < l.length := by rw [h.len]; exact h.at_
  have c1 : (⟨zeroAdr, 0, 1⟩ : Ent).count ≠ 0 := by decide
  have hc := cntT_set (l := l.set p zeroEnt) (p := p) (d := zeroEnt) (by simp [hp]) ⟨zeroAdr, 0, 1⟩
  rw [List.set_set, if_neg c1, if_pos (show zeroEnt.count = 0 from rfl), h.cnt] at hc
  obtain ⟨z, hz, hzn⟩ := cntT_room (l := l.set p ⟨zeroAdr, 0, 1⟩) (by rw [List.length_set, h.len]; have := h.room; omega)
  rw [List.length_set, h.len] at hz
  rw [layT_set hp c1] at hzn
  have hne : z ≠ p := by rintro rfl; rw [putP_same] at hzn; cases hzn
  rw [putP_other _ _ hne] at hzn
  exact ⟨z, hz, hzn, hne⟩
theorem Shut.shift (h : Shut n hn S c z l p) (hf : l[nextP n p]? = some f) (cf : f.count ≠ 0) (hm : nextP n p ≠ (ruleT n hn).home f.adr) (hz : z < n) : Shut n hn S c z (l.set p f) (nextP n p) ∧ farF n (nextP n p) z + 1 = farF n p z := by
  refine ⟨⟨h.del.shift hf cf hm, ?_, ?_⟩, farF_toward h.del.at_ hz (fun e => h.ne e.symm)⟩
  · rw [layT_set (by rw [h.del.len]; exact h.del.at_) cf, putP_other _ _ h.ne]
    exact h.none_
  · rintro rfl
    have := h.none_
    rw [layT_at hf, if_neg cf] at this
    cases this
end
theorem zero_ent (w : World) : (zeroValue 32).run Try.prog w = .ok (.agg zeroEnt.cs.toArray) w := by kernel_rfl

set_option maxRecDepth 100000 in
set_option maxHeartbeats 8000000 in
theorem tdrop_any (w : World) (b g c n : Nat) (hn : 0 < n) (l : List Ent) (h : TabAt w b g c n l) (ht : Tb n hn l) (a : Adr) :
    Calls Try.prog 18 #[.pointer (some ⟨b, 0, none⟩), a.val] w fun r w' => ∃ code l', r = .returned (.int .i64 code) ∧ TabAt w' b g c n l' ∧ DropP n hn l a code l' ∧ But [g] w.heap.size w w' := by
  have hle := h.le
  have hcap := h.cap
  have hbl := h.blt
  have hgl := h.glt
  have Hh := Lib.hid h
  have Ht := Lib.hid ht
  have HszA := Lib.hid (adr_size a)
  clear h ht
  go_enter Try.func18, Try.ntmps18
  go_wp2_with ((with_reducible refine at_box 23 ?_); refine wpList_box_rowV rfl 23 _ rfl (cells a.1) rfl ?_)
  intro w1 hr1 hb1 hs1
  have hT1 := Hh.out.later hb1
  have q1 := Lib.hid (row_range hr1)
  go_wp2_with ((with_reducible refine at_load 23 ?_); refine wpList_load_mid rfl 23 _ rfl w.heap.size 0 rfl (cells a.1) _ q1.out Try.underlying23 rfl HszA.out ?_)
  refine (tfind_any w1 b g c n hn l hT1 Ht.out a).mono ?_
  rintro r w2 ⟨v, rfl, hf, hb2⟩
  have HT2 : Hid (TabAt w2 b g c n l) := hT1.later hb2
  have HB2 : Hid (Below w.heap.size w w2) := hb1.trans (hb2.mono (by omega))
  clear hr1 hb1 hs1 hT1 hb2 q1
  rcases hf with ⟨k, f, rfl, hk, hc, ha⟩ | ⟨rfl, hno⟩
  · have hkn : k < n := by have := (List.getElem?_eq_some_iff.1 hk).1; rw [HT2.out.len] at this; exact this
    obtain ⟨hdel, hpos⟩ := Ht.out.del hk hc
    obtain ⟨z, hz, hzn, hzk⟩ := hdel.spare
    have HS : Hid (Shut n hn (fun x => (x ∈ l ∧ x.count ≠ 0) ∧ x.adr ≠ f.adr) (cntT l - 1) z l k) := ⟨hdel, hzn, hzk⟩
    obtain ⟨S, hS⟩ : ∃ S, (fun x : Ent => (x ∈ l ∧ x.count ≠ 0) ∧ x.adr ≠ f.adr) = S := ⟨_, rfl⟩
    obtain ⟨m, hm⟩ : ∃ m, cntT l - 1 = m := ⟨_, rfl⟩
    rw [hS, hm] at HS
    have HFin : Hid (∀ l', Tb n hn l' → cntT l' = m → (∀ x : Ent, (x ∈ l' ∧ x.count ≠ 0) ↔ S x) → DropP n hn l a 0 l') := by
      intro l' h1 h2 h3
      refine ⟨h1, .inl ⟨⟨f, List.mem_of_getElem? hk, hc, ha⟩, rfl, by omega, fun x hx => ?_⟩⟩
      have h4 := h3 x
      rw [← hS] at h4
      rw [← ha]
      exact ⟨fun hi => ⟨(h4.1 ⟨hi, hx⟩).1.1, (h4.1 ⟨hi, hx⟩).2⟩, fun hi => (h4.2 ⟨⟨hi.1, hx⟩, hi.2⟩).1⟩
    have hnk := nextP_lt hkn
    have HBut : Hid (But [g] w.heap.size w w2) := But.of _ HB2.out
    clear hdel hpos hzn hzk hS hm hk hc ha HB2
    go_wp2_with fail
    refine (tafter_any _ b g c n l HT2.out k hkn).mono ?_
    rintro r w3 ⟨rfl, hw⟩
    rw [hw]
    clear hw w3
    obtain ⟨N, hN⟩ : ∃ N, w.heap.size = N := ⟨_, rfl⟩
    rw [hN] at HBut hbl hgl
    have hsz2 : N ≤ w2.heap.size := HBut.out.size |> fun h => by omega
    go_wp2_with fail
    go_loopw [5, 7] (fun s t W => ∃ (p : Nat) (l' : List Ent), p < n ∧ s = .int .i64 p ∧ t = .int .i64 ((nextP n p : Nat) : Int) ∧ Hid (Shut n hn S m z l' p) ∧ Hid (TabAt W b g c n l') ∧ Hid (But [g] N w W)) (fun s _ _ => farF n (intOf s).toNat z)
    case atStart => exact ⟨k, l, hkn, rfl, rfl, HS, HT2, HBut⟩
    case round =>
      obtain ⟨p, l', hp, rfl, rfl, HK, HT, HB⟩ := hrel
      clear HT2 HBut HS hsz2
      have hnp := nextP_lt hp
      obtain ⟨x, hx⟩ := HT.out.get hnp
      have Hx := Lib.hid hx
      have hszr : N ≤ wr.heap.size := by have := HB.out.size; omega
      clear hx
      go_wp2_with fail
      refine (tdisp_any wr b g c n hn l' HT.out (nextP n p) x Hx.out).mono ?_
      rintro r w3 ⟨rfl, hb3⟩
      have HT3 : Hid (TabAt w3 b g c n l') := HT.out.later hb3
      have HB3 : Hid (But [g] N w w3) := HB.out.trans (But.of _ (hb3.mono hszr))
      have hsz3 : N ≤ w3.heap.size := by have := hb3.size; omega
      clear hb3 HT HB hszr
      by_cases hd : x.count ≠ 0 ∧ nextP n p ≠ (ruleT n hn).home x.adr
      · rw [decide_eq_true hd]
        have H12 := HK.out.shift Hx.out hd.1 hd.2 hz
        have H1 := Lib.hid H12.1
        have H2 := Lib.hid H12.2
        clear hd H12
        obtain ⟨q, hq⟩ : ∃ q, nextP n p = q := ⟨_, rfl⟩
        rw [hq] at hnp H1 H2 Hx ⊢
        have Hq := Lib.hid hq
        clear hq
        have hp' : (p : Int) < (n : Int) := by omega
        have hq' : (q : Int) < (n : Int) := by omega
        have c0 := HT3.out.ptr.cell
        have HTd : Hid (TabAt w3.drew b g c n l') := HT3.out.drew
        have HBd : Hid (But [g] N w w3.drew) := HB3.out.drew
        have hszd : N ≤ w3.drew.heap.size := hsz3
        have qF : Hid (w3.drew.rangeAt g (q * 34) x.cs) := ent_range HTd.out.row Hx.out
        have Hsf := Lib.hid (ent_size x)
        clear HT3 HB3 hsz3
        go_wp2_with fail
        refine wp_region_still_tail 13 (by kernel_rfl) (by kernel_rfl) ?_
        simp only [List.take_succ_cons, List.take_zero, List.drop_succ_cons, List.drop_zero]
        iterate 11 still_step
        refine wpStill_exec (.agg x.cs.toArray) rfl (by refine exec_load_mid 32 (.tmp 35) ?_ g (q * 34) ?_ x.cs _ qF.out Try.underlying32 rfl Hsf.out <;> rfl) ?_
        try simp only [Act.put, List.setIfInBounds_toArray, List.set_cons_zero, List.set_cons_succ]
        still_step
        refine wpStill_nil ?_
        change wpList _ _ _ _ _ w3.drew
        have hthere := HTd.out.there hp
        have Hset := Lib.hid (HTd.out.set hp x)
        generalize w3.drew = wd at *
        have HT4 := Lib.hid Hset.out.1
        have HB4 : Hid (But [g] N w (wd.setCells g (p * 34) x.cs)) := HBd.out.grown Hset.out.2 (fun k e => by injection e with e; left; simp [e]) hszd
        go_wp2_with ((with_reducible refine at_store 32 ?_); refine wpList_store_midV rfl 32 _ _ rfl g (p * 34) x.cs rfl rfl (by rw [List.size_toArray, Ent.cs_length]; exact hthere) (by rw [List.size_toArray]; exact ent_size _) (all_oneCell_toArray (Ent.one _)) ?_; intro w4 hw4; subst hw4)
        refine (tafter_any _ b g c n _ HT4.out q hnp).mono ?_
        rintro r w5 ⟨rfl, rfl⟩
        go_wp2_with fail
        go_roundw
        case rel => exact ⟨q, l'.set p x, hnp, rfl, rfl, H1, HT4, HB4⟩
        case measure =>
          have := H2.out
          simp [intOf]
          omega
      · rw [decide_eq_false hd]
        have hcl : x.count = 0 ∨ nextP n p = (ruleT n hn).home x.adr := by
          by_cases h0 : x.count = 0
          · exact .inl h0
          · exact .inr (Classical.byContradiction fun h1 => hd ⟨h0, h1⟩)
        have H3 := HK.out.del.close Hx.out hcl
        have HD := Lib.hid (HFin.out _ H3.1 H3.2.1 H3.2.2)
        have c0 := HT3.out.ptr.cell
        have hp' : (p : Int) < (n : Int) := by omega
        have hthere := HT3.out.there hp
        have Hset := Lib.hid (HT3.out.set hp zeroEnt)
        have hclr : ∀ ty cc, (Builtin.clear_ #[26] ty #[.slice (some ⟨g, p * 34, none⟩) 1 cc]).run Try.prog w3 = .ok (.tuple #[]) (w3.setCells g (p * 34) zeroEnt.cs) := fun ty cc =>
          run_clear_row w3 26 32 ty _ zeroEnt.cs Try.underlying26 zero_ent rfl (Ent.one _) g (p * 34) cc (by rw [Ent.cs_length]; exact hthere)
        clear hd hcl H3
        go_wp2_with fail
        go_ret
        refine ⟨0, _, rfl, Hset.out.1, HD.out, ?_⟩
        rw [hN]
        exact HB3.out.grown Hset.out.2 (fun k e => by injection e with e; left; simp [e]) hsz3
  · have HD : Hid (DropP n hn l a 8 l) := ⟨Ht.out, .inr ⟨hno, rfl, rfl⟩⟩
    clear hno
    go_wp2_with fail
    go_ret
    exact ⟨8, l, rfl, HT2.out, HD.out, But.of _ HB2.out⟩
end Go.Proofs.Ytkkllmjomdbndaa
namespace Go.Proofs.Ytkkllmjomdbndaa
open Go.RowKit
set_option linter.unusedVariables false
set_option linter.unusedSimpArgs false

theorem zero_ents (n : Nat) : (madeCells zeroEnt.cs.toArray (n * 34)).toList = ents (List.replicate n zeroEnt) := by
  have h := made_list zeroEnt.cs.toArray (by decide) n
  rw [show zeroEnt.cs.toArray.size = 34 by rfl] at h
  rw [h]
  simp [ents, List.flatMap]
/-- New: a table, or none. -/
def New11V (w w' : World) (n : Int) (e : Ending) : Prop :=
  if 1 ≤ n ∧ n ≤ 406 then ∃ b g, e = .returned (.tuple #[.pointer (some ⟨b, 0, none⟩), .int .i64 0]) ∧ TabAt w' b g n.toNat n.toNat (List.replicate n.toNat zeroEnt) ∧ w.heap.size ≤ b ∧ w.heap.size ≤ g ∧ Below w.heap.size w w'
  else e = .returned (.tuple #[.pointer none, .int .i64 2]) ∧ w' = w

set_option maxRecDepth 100000 in
set_option maxHeartbeats 1000000 in
theorem tnew_any (w : World) (n : Int) : Calls Try.prog 24 #[.int .i64 n] w fun e w' => New11V w w' n e := by
  obtain ⟨i0, hi, hz0, hz1, hz2⟩ := info_parts Try.infoE
  unfold New11V
  by_cases h : 1 ≤ n ∧ n ≤ 406
  · obtain ⟨h1, h2⟩ := h
    obtain ⟨k, rfl⟩ : ∃ k : Nat, n = k := ⟨n.toNat, by omega⟩
    have hc : (1 ≤ (k : Int) ∧ (k : Int) ≤ 406) = True := eq_true ⟨h1, h2⟩
    simp only [hc, if_true, Int.toNat_natCast]
    clear hc
    go_enter Try.func24, Try.ntmps24
    go_wp2_with (at_make; refine wpList_make_full _ rfl _ _ 26 rfl w.heap.size 32 i0 (.agg zeroEnt.cs.toArray) 34 Try.underlying26 hi hz0 hz1 .i64 .i64 _ _ k rfl rfl rfl rfl (by rw [hz2]; omega) (by unfold maxLen; omega) (Nat.le_refl _) ?_)
    intro w1 hown hg1
    rw [zero_ents] at hown
    have hb1 : Below w.heap.size w w1 := (Below.refl _ _).grown hg1 (Nat.le_refl _) (by simp)
    go_wp2_with fail
    go_ret2
    have hp : One (w1.alloc (.cells #[.slice (some ⟨w.heap.size, 0, none⟩) k k] 61)) w1.heap.size (.slice (some ⟨w.heap.size, 0, none⟩) k k) 61 := One.new w1 _ _
    have hr := own_rebase (base' := 0) (hown.alloc (.cells #[.slice (some ⟨w.heap.size, 0, none⟩) k k] 61)) (fun _ _ => Nat.zero_le _)
    exact ⟨w1.heap.size, w.heap.size, rfl, ⟨hp, hr, List.length_replicate .., by omega, by omega⟩, hb1.size, Nat.le_refl _, hb1.alloc hb1.size _⟩
  · simp only [if_neg h]
    go_enter Try.func24, Try.ntmps24
    go_wp2_with fail
    all_goals
      go_ret2
      exact ⟨rfl, rfl⟩

set_option maxRecDepth 100000 in
set_option maxHeartbeats 1000000 in
theorem clone_ent (w : World) (g n c : Nat) (l : List Ent) (h : w.ownsRow 0 32 34 (.slice (some ⟨g, 0, none⟩) n c) n (ents l)) (hn : n ≤ 406) :
    Calls Try.prog 30 #[.slice (some ⟨g, 0, none⟩) n c] w fun e w' => ∃ A' c', e = .returned (.slice A' n c') ∧ w'.ownsRow w.heap.size 32 34 (.slice A' n c') n (ents l) ∧ Below w.heap.size w w' := by
  obtain ⟨i0, hi, hz0, hz1, hz2⟩ := info_parts Try.infoE
  have hg := own_lt h rfl
  have hown : (w.alloc (.cells #[] 32)).ownsRow w.heap.size 32 34 (.slice (some ⟨w.heap.size, 0, none⟩) 0 0) 0 (ents []) := World.ownsRow_lit w #[] 0 (Nat.le_refl _) (by unfold maxLen; omega) rfl
  have h1 := h.alloc (.cells #[] 32)
  have hb1 : Below w.heap.size w (w.alloc (.cells #[] 32)) := (Below.refl _ _).alloc (Nat.le_refl _) _
  have hs1 := hb1.size
  have hq := fun W => eql_slice_nil (P := Try.prog) W (some ⟨g, 0, none⟩) n c Try.underlying26
  clear h
  go_enter Try.func30, Try.ntmps30
  go_wp2_with (at_builtin; refine wpList_append_rows rfl _ _ 26 rfl w.heap.size 32 Try.underlying26 Try.infoE rfl (by decide) _ 0 [] rfl hown _ 0 n (ents l) rfl h1 (ents_one _) (by unfold maxLen; omega) (by omega) hs1 ?_)
  intro v' w2 hown2 hg2 _
  obtain ⟨A', c', rfl, _, _⟩ := own_slice hown2
  go_wp2_with fail
  go_ret
  exact ⟨A', c', rfl, hown2, hb1.grown hg2 hs1 (own_ge hown)⟩

set_option maxRecDepth 100000 in
set_option maxHeartbeats 1000000 in
theorem tplaces_any (w : World) (b g c n : Nat) (l : List Ent) (h : TabAt w b g c n l) :
    Calls Try.prog 15 #[.pointer (some ⟨b, 0, none⟩)] w fun e w' => ∃ A' c', e = .returned (.slice A' n c') ∧ w'.ownsRow w.heap.size 32 34 (.slice A' n c') n (ents l) ∧ Below w.heap.size w w' := by
  have c0 := h.ptr.cell
  have Hh := Lib.hid h
  clear h
  go_enter Try.func15, Try.ntmps15
  go_wp2_with fail
  refine (clone_ent w g n c l Hh.out.row Hh.out.le).mono ?_
  rintro e w1 ⟨A', c', rfl, hr1, hb1⟩
  have HR1 := Lib.hid hr1
  clear hr1
  go_wp2_with fail
  go_ret
  exact ⟨A', c', rfl, HR1.out, hb1⟩

set_option maxRecDepth 100000 in
set_option maxHeartbeats 1000000 in
theorem tcopy_any (w : World) (b g c n : Nat) (l : List Ent) (h : TabAt w b g c n l) :
    Calls Try.prog 21 #[.pointer (some ⟨b, 0, none⟩)] w fun e w' => ∃ b' g' c', e = .returned (.pointer (some ⟨b', 0, none⟩)) ∧ TabAt w' b' g' c' n l ∧ w.heap.size ≤ b' ∧ w.heap.size ≤ g' ∧ Below w.heap.size w w' := by
  have c0 := h.ptr.cell
  have Hh := Lib.hid h
  clear h
  go_enter Try.func21, Try.ntmps21
  go_wp2_with fail
  refine (clone_ent w g n c l Hh.out.row Hh.out.le).mono ?_
  rintro e w1 ⟨A', c', rfl, hr1, hb1⟩
  obtain ⟨g', cap', hv, hcap, _, hg1, hg2⟩ := own_form hr1 (by have := Hh.out.pos; omega)
  injection hv with e1 e2 e3
  subst e1 e3
  clear c0
  go_wp2_with fail
  go_ret
  have hp : One (w1.alloc (.cells #[.slice (some ⟨g', 0, none⟩) n c'] 61)) w1.heap.size (.slice (some ⟨g', 0, none⟩) n c') 61 := One.new w1 _ _
  have hr := own_rebase (base' := 0) (hr1.alloc (.cells #[.slice (some ⟨g', 0, none⟩) n c'] 61)) (fun _ _ => Nat.zero_le _)
  exact ⟨w1.heap.size, g', c', rfl, ⟨hp, hr, Hh.out.len, Hh.out.pos, Hh.out.le⟩, hb1.size, hg1, hb1.alloc hb1.size _⟩
end Go.Proofs.Ytkkllmjomdbndaa
namespace Go.Proofs.Ytkkllmjomdbndaa
open Go.RowKit
set_option linter.unusedVariables false
set_option linter.unusedSimpArgs false

theorem Try.zeroEnt11 : (Try.prog.info? 32).bind (·.zero) = some (.agg zeroEnt.cs.toArray) := by kernel_rfl
theorem Try.builtE0 : Try.prog.built 32 [] = some zeroEnt.cs.toArray := by kernel_rfl
theorem build_ent0 (w : World) : (Instr.build 32 #[]).run Try.prog w = .ok (.agg zeroEnt.cs.toArray) w := run_build w _ _ _ Try.builtE0
/-- What a look answers: the entry and true, or the zero entry and false. -/
def entV (e : Ent) (ok : Bool) : Ending := .returned (.tuple #[e.val, .bool ok])
def GetP (l : List Ent) (a : Adr) (r : Ending) : Prop := (∃ e ∈ l, e.count ≠ 0 ∧ e.adr = a ∧ r = entV e true) ∨ ((∀ e ∈ l, e.count ≠ 0 → e.adr ≠ a) ∧ r = entV zeroEnt false)
def SlotP (l : List Ent) (s : Int) (r : Ending) : Prop :=
  (∃ (k : Nat) (e : Ent), l[k]? = some e ∧ e.count ≠ 0 ∧ e.slot = s ∧ (∀ (j : Nat) (f : Ent), j < k → l[j]? = some f → f.count ≠ 0 → f.slot ≠ s) ∧ r = entV e true) ∨ ((∀ e ∈ l, e.count ≠ 0 → e.slot ≠ s) ∧ r = entV zeroEnt false)

set_option maxRecDepth 100000 in
set_option maxHeartbeats 4000000 in
theorem tget_any (w : World) (b g c n : Nat) (hn : 0 < n) (l : List Ent) (h : TabAt w b g c n l) (ht : Tb n hn l) (a : Adr) :
    Calls Try.prog 11 #[.pointer (some ⟨b, 0, none⟩), a.val] w fun r w' => GetP l a r ∧ Below w.heap.size w w' := by
  have hle := h.le
  have hcap := h.cap
  have Hh := Lib.hid h
  have Ht := Lib.hid ht
  have HszA := Lib.hid (adr_size a)
  have hz := build_ent0
  clear h ht
  go_enter Try.func11, Try.ntmps11
  go_wp2_with ((with_reducible refine at_box 23 ?_); refine wpList_box_rowV rfl 23 _ rfl (cells a.1) rfl ?_)
  intro w1 hr1 hb1 hs1
  go_wp2_with ((with_reducible refine at_alloc 32 ?_); refine wpList_alloc_rowV rfl 32 rfl zeroEnt.cs Try.zeroEnt11 ?_)
  intro w2 hr2 hb2 hs2
  have hB2 : Below w.heap.size w w2 := hb1.trans (hb2.mono (by omega))
  have hT2 := Hh.out.later hB2
  have q1 := Lib.hid (row_range (hr1.below (by omega) hb2))
  have hs2' : w2.heap.size = w.heap.size + 2 := by omega
  clear hr1 hb1 hs1 hb2 hs2
  obtain ⟨N, hN⟩ : ∃ N, w.heap.size = N := ⟨_, rfl⟩
  rw [hN] at hr2 hB2 q1 hs2' ⊢
  go_wp2_with ((with_reducible refine at_load 23 ?_); refine wpList_load_mid rfl 23 _ rfl N 0 rfl (cells a.1) _ q1.out Try.underlying23 rfl HszA.out ?_)
  refine (tfind_any w2 b g c n hn l hT2 Ht.out a).mono ?_
  rintro r w3 ⟨v, rfl, hf, hb3⟩
  have HR3 : Hid (RowV w3 (N + 1) 32 zeroEnt.cs) := hr2.below (by omega) hb3
  have HT3 : Hid (TabAt w3 b g c n l) := hT2.later hb3
  have hB3 : Below N w w3 := hB2.trans (hb3.mono (by omega))
  clear hr2 hT2 hB2 hb3 q1 hs2'
  rcases hf with ⟨k, f, rfl, hk, hc, ha⟩ | ⟨rfl, hno⟩
  · have hkn : k < n := by have := (List.getElem?_eq_some_iff.1 hk).1; rw [HT3.out.len] at this; exact this
    have hk' : (k : Int) < (n : Int) := by omega
    have hk0 : (0 : Int) ≤ (k : Int) := by omega
    have c0 := HT3.out.ptr.cell
    have qF : Hid (w3.rangeAt g (k * 34) f.cs) := ent_range HT3.out.row hk
    have Hsf := Lib.hid (ent_size f)
    have Hp : Hid (GetP l a (entV f true)) := .inl ⟨f, List.mem_of_getElem? hk, hc, ha, rfl⟩
    clear hk hc ha
    go_wp2_with (first
      | ((with_reducible refine at_load 32 ?_); refine wpList_load_mid rfl 32 _ rfl g (k * 34) rfl f.cs _ qF.out Try.underlying32 rfl Hsf.out ?_)
      | ((with_reducible refine at_store 32 ?_); refine wpList_store_rowV rfl 32 _ _ rfl (N + 1) f.cs rfl rfl 32 zeroEnt.cs HR3.out (by rw [List.size_toArray]; exact ent_size _) (by rw [List.size_toArray, List.size_toArray, Ent.cs_length, Ent.cs_length]) (all_oneCell_toArray (Ent.one _)) ?_; intro w4 hr4 hg4 hs4))
    refine bodyPost_ret (results_cell_tmp (fn := Try.f11) rfl _ _ (N + 1) 32 _ (0, 0) _ rfl (.bool true) rfl hr4 Try.underlying32 rfl (by rw [List.size_toArray]; exact ent_size _)) rfl ⟨Hp.out, ?_⟩
    rw [hN]
    exact below_grown hB3 hg4 (by omega) (by have := hB3.size; omega)
  · have Hp : Hid (GetP l a (entV zeroEnt false)) := .inr ⟨hno, rfl⟩
    clear hno
    go_wp2_with ((with_reducible refine at_store 32 ?_); refine wpList_store_rowV rfl 32 _ _ rfl (N + 1) zeroEnt.cs rfl rfl 32 zeroEnt.cs HR3.out (by rw [List.size_toArray]; exact ent_size _) rfl (all_oneCell_toArray (Ent.one _)) ?_; intro w4 hr4 hg4 hs4)
    refine bodyPost_ret (results_cell_tmp (fn := Try.f11) rfl _ _ (N + 1) 32 _ (0, 0) _ rfl (.bool false) rfl hr4 Try.underlying32 rfl (by rw [List.size_toArray]; exact ent_size _)) rfl ⟨Hp.out, ?_⟩
    rw [hN]
    exact below_grown hB3 hg4 (by omega) (by have := hB3.size; omega)

set_option maxRecDepth 100000 in
set_option maxHeartbeats 4000000 in
theorem tslot_any (w : World) (b g c n : Nat) (l : List Ent) (h : TabAt w b g c n l) (s : Int) :
    Calls Try.prog 13 #[.pointer (some ⟨b, 0, none⟩), .int .i64 s] w fun r w' => SlotP l s r ∧ Below w.heap.size w w' := by
  have hle := h.le
  have hcap := h.cap
  have hbl := h.blt
  have hgl := h.glt
  have Hh := Lib.hid h
  have hz := build_ent0
  clear h
  go_enter Try.func13, Try.ntmps13
  go_wp2_with ((with_reducible refine at_alloc 32 ?_); refine wpList_alloc_rowV rfl 32 rfl zeroEnt.cs Try.zeroEnt11 ?_)
  intro w2 hr2 hb2 hs2
  have hT2 := Hh.out.later hb2
  have c0 := hT2.ptr.cell
  obtain ⟨N, hN⟩ : ∃ N, w.heap.size = N := ⟨_, rfl⟩
  rw [hN] at hr2 hb2 hs2 hbl hgl ⊢
  have HR2 := Lib.hid hr2
  have HB2 := Lib.hid hb2
  clear hr2 hb2 hT2
  go_wp2_with fail
  go_loopw [13] (fun v W => ∃ k : Nat, k ≤ n ∧ v = .int .i64 k ∧ Hid (∀ (j : Nat) (f : Ent), j < k → l[j]? = some f → f.count ≠ 0 → f.slot ≠ s) ∧ Hid (RowV W N 32 zeroEnt.cs) ∧ Hid (Below N w W)) (fun v _ => n - (intOf v).toNat)
  case atStart => exact ⟨0, Nat.zero_le _, rfl, by show ∀ _, _; intros; omega, HR2, HB2⟩
  case round =>
    obtain ⟨k, hk, rfl, HK, HR, HB⟩ := hrel
    clear HR2 HB2 hs2 c0
    by_cases hlt : k < n
    · have hlt' : (k : Int) < (n : Int) := by omega
      have hk0 : (0 : Int) ≤ (k : Int) := by omega
      have HT : Hid (TabAt wr b g c n l) := Hh.out.below HB.out hbl hgl
      obtain ⟨f, hf⟩ := HT.out.get hlt
      have qF : Hid (wr.rangeAt g (k * 34) f.cs) := ent_range HT.out.row hf
      have Hsf := Lib.hid (ent_size f)
      have Hf := Lib.hid hf
      obtain ⟨M, hM⟩ : ∃ M, wr.heap.size = M := ⟨_, rfl⟩
      have hNM : N + 1 ≤ M := by have := HR.out.lt; omega
      clear hf
      go_wp2_with (first
        | ((with_reducible refine at_load 32 ?_); refine wpList_load_mid rfl 32 _ rfl g (k * 34) rfl f.cs _ qF.out Try.underlying32 rfl Hsf.out ?_)
        | ((with_reducible refine at_alloc 32 ?_); refine wpList_alloc_rowV rfl 32 rfl zeroEnt.cs Try.zeroEnt11 ?_; intro w3 hr3 hb3 hs3; rw [hM] at hr3 hb3 ⊢)
        | ((with_reducible refine at_store 32 ?_); refine wpList_store_rowV rfl 32 _ _ rfl M f.cs rfl rfl 32 zeroEnt.cs hr3 (by rw [List.size_toArray]; exact ent_size _) (by rw [List.size_toArray, List.size_toArray, Ent.cs_length, Ent.cs_length]) (all_oneCell_toArray (Ent.one _)) ?_; intro w4 hr4 hg4 hs4))
      have hb4 : Below M wr w4 := below_grown hb3 hg4 (Nat.le_refl _) (by have := hb3.size; omega)
      have HT4 : Hid (TabAt w4 b g c n l) := HT.out.below hb4 (by omega) (by omega)
      have HR4 : Hid (RowV w4 N 32 zeroEnt.cs) := HR.out.below (by omega) hb4
      have HB4 : Hid (Below N w w4) := HB.out.trans (hb4.mono (by omega))
      have c1 := hr4.cell f.get_slot
      have q4 := Lib.hid (row_range hr4)
      clear HT HR HB hr3 hb3 hs3 hg4 hs4 hb4 qF hr4
      refine (tempty_any w4 b g c n l HT4.out k f Hf.out).mono ?_
      rintro r w5 ⟨rfl, hw⟩
      rw [hw]
      clear hw w5
      by_cases hc : f.count = 0
      · have HK1 : Hid (∀ (j : Nat) (x : Ent), j < k + 1 → l[j]? = some x → x.count ≠ 0 → x.slot ≠ s) := by
          intro j x hj hx hxc
          by_cases hjk : j = k
          · subst hjk; rw [Hf.out] at hx; cases hx; exact absurd hc hxc
          · exact HK.out j x (by omega) hx hxc
        rw [decide_eq_true hc]
        clear q4 c1
        go_wp2_with fail
        go_roundw
        case rel => exact ⟨k + 1, by omega, by go_num, HK1, HR4, HB4⟩
        case measure => simp [intOf]; omega
      · rw [decide_eq_false hc]
        by_cases hs : f.slot = s
        · have Hp : Hid (SlotP l s (entV f true)) := .inl ⟨k, f, Hf.out, hc, hs, HK.out, rfl⟩
          have hd : (f.slot == s) = true := by rw [beq_iff_eq]; exact hs
          go_wp2_with (first
            | ((with_reducible refine at_load 32 ?_); refine wpList_load_mid rfl 32 _ rfl M 0 rfl f.cs _ q4.out Try.underlying32 rfl Hsf.out ?_)
            | ((with_reducible refine at_store 32 ?_); refine wpList_store_rowV rfl 32 _ _ rfl N f.cs rfl rfl 32 zeroEnt.cs HR4.out (by rw [List.size_toArray]; exact ent_size _) (by rw [List.size_toArray, List.size_toArray, Ent.cs_length, Ent.cs_length]) (all_oneCell_toArray (Ent.one _)) ?_; intro w6 hr6 hg6 hs6))
          refine bodyPost_ret (results_cell_tmp (fn := Try.f13) rfl _ _ N 32 _ (0, 0) _ rfl (.bool true) rfl hr6 Try.underlying32 rfl (by rw [List.size_toArray]; exact ent_size _)) rfl ⟨Hp.out, ?_⟩
          rw [hN]
          exact below_grown HB4.out hg6 (Nat.le_refl _) (by have := HR4.out.lt; omega)
        · have HK1 : Hid (∀ (j : Nat) (x : Ent), j < k + 1 → l[j]? = some x → x.count ≠ 0 → x.slot ≠ s) := by
            intro j x hj hx hxc
            by_cases hjk : j = k
            · subst hjk; rw [Hf.out] at hx; cases hx; exact hs
            · exact HK.out j x (by omega) hx hxc
          have hd : (f.slot == s) = false := by rw [beq_eq_false_iff_ne]; exact hs
          clear q4
          go_wp2_with fail
          go_roundw
          case rel => exact ⟨k + 1, by omega, by go_num, HK1, HR4, HB4⟩
          case measure => simp [intOf]; omega
    · obtain rfl : k = n := by omega
      have Hp : Hid (SlotP l s (entV zeroEnt false)) := .inr ⟨fun e he hc => by
        obtain ⟨q, hq, rfl⟩ := List.mem_iff_getElem.1 he
        exact HK.out q _ (by rw [← Hh.out.len]; exact hq) (List.getElem?_eq_getElem hq) hc, rfl⟩
      go_wp2_with ((with_reducible refine at_store 32 ?_); refine wpList_store_rowV rfl 32 _ _ rfl N zeroEnt.cs rfl rfl 32 zeroEnt.cs HR.out (by rw [List.size_toArray]; exact ent_size _) rfl (all_oneCell_toArray (Ent.one _)) ?_; intro w4 hr4 hg4 hs4)
      refine bodyPost_ret (results_cell_tmp (fn := Try.f13) rfl _ _ N 32 _ (0, 0) _ rfl (.bool false) rfl hr4 Try.underlying32 rfl (by rw [List.size_toArray]; exact ent_size _)) rfl ⟨Hp.out, ?_⟩
      rw [hN]
      exact below_grown HB.out hg4 (Nat.le_refl _) (by have := HR.out.lt; omega)
end Go.Proofs.Ytkkllmjomdbndaa
namespace Go.Proofs.Ytkkllmjomdbndaa
open Go.RowKit
set_option linter.unusedVariables false
set_option linter.unusedSimpArgs false

/-- A table's places in a row of the call's own; no count is negative. -/
structure LayAt (w : World) (base : Nat) (v : Value) (n : Nat) (hn : 0 < n) (l : List Ent) : Prop where
  row : w.ownsRow base 32 34 v n (ents l)
  tb : Tb n hn l
  pos : ∀ x ∈ l, 0 ≤ x.count

set_option maxRecDepth 100000 in
set_option maxHeartbeats 16000000 in
theorem rlay_any (w : World) (base n : Nat) (hn : 0 < n) (v : Value) (l : List Ent) (h : LayAt w base v n hn l) (hle : n ≤ 900) (e : Ent) (he : e.ok) (hnew : ∀ f ∈ l, f.count ≠ 0 → f.adr ≠ e.adr) (hroom : cntT l + 1 < n) :
    Calls Try.prog 31 #[v, e.val] w fun r w' => ∃ v', r = .returned v' ∧ ∃ l', LayAt w' w.heap.size v' n hn l' ∧ cntT l' = cntT l + 1 ∧ (∀ y : Ent, (y ∈ l' ∧ y.count ≠ 0) ↔ ((y ∈ l ∧ y.count ≠ 0) ∨ y = e)) ∧ Below w.heap.size w w' := by
  obtain ⟨z, hz, hzn⟩ := cntT_room (l := l) (by rw [h.tb.len]; omega)
  rw [h.tb.len] at hz
  have HG : Hid (Ins n hn (fun y => (y ∈ l ∧ y.count ≠ 0) ∨ y = e) (cntT l) l e ((ruleT n hn).home e.adr) ∧ layT l z = none) := ⟨h.tb.ins he.real hnew hroom, hzn⟩
  obtain ⟨S, hS⟩ : ∃ S, (fun y : Ent => (y ∈ l ∧ y.count ≠ 0) ∨ y = e) = S := ⟨_, rfl⟩
  obtain ⟨m, hm⟩ : ∃ m, cntT l = m := ⟨_, rfl⟩
  rw [hS, hm] at HG
  have HS := Lib.hid hS
  have HM := Lib.hid hm
  have Hpos := Lib.hid h.pos
  have Hep : Hid (0 < e.count) := by show _ < _; have := he.1; omega
  have Hlen := Lib.hid h.tb.len
  have hh : (ruleT n hn).home e.adr < n := (ruleT n hn).home_lt e.adr
  have Hr := Lib.hid (home_rule n hn e.adr)
  have Hse := Lib.hid (ent_size e)
  have HszE := Lib.hid (adr_size e.adr)
  obtain ⟨A, c, rfl, -, hc, hcm, hl⟩ := lies_ownE h.row
  have HL := Lib.hid hl
  clear h hzn hS hm hnew hroom hl
  go_enter Try.func31, Try.ntmps31
  go_wp2_with ((with_reducible refine at_box 32 ?_); refine wpList_box_rowV rfl 32 _ rfl e.cs rfl ?_)
  intro w1 hr1 hb1 hs1
  obtain ⟨b, o, hA, hbB, hra⟩ := lies_range (HL.out.below hb1) (by rw [Hlen.out]; exact hn)
  subst hA
  have Hra := Lib.hid hra
  have HEl : Hid ((ents l).length = n * 34) := by show _ = _; rw [ents_length, Hlen.out]
  obtain ⟨N, hN⟩ : ∃ N, w.heap.size = N := ⟨_, rfl⟩
  rw [hN] at hr1 hb1 hs1 hbB ⊢
  clear hra
  go_wp2_with (first
    | (at_builtin; refine wpList_append_range rfl _ _ 26 rfl (N + 1) 32 Try.underlying26 Try.infoE rfl (by decide) (.slice none 0 0) 0 [] rfl (World.ownsRow_nil _ _ _ _) b o n _ (ents l) rfl HEl.out Hra.out (ents_one _) (by unfold maxLen; omega) (by omega) (by omega) ?_; intro v2 w2 hown2 hg2; have hb2 : Below (N + 1) w1 w2 := (Below.refl _ _).grown hg2 (by omega) (by simp [Value.ownBlock]); have HO2 : Hid (w2.ownsRow (N + 1) 32 34 v2 n (ents l)) := (by have := hown2; rw [Nat.zero_add, List.nil_append] at this; exact this); obtain ⟨g, cap, hv2, hcap, hcapm, hgN, hglt⟩ := own_form HO2.out hn; subst hv2; have HR2 : Hid (RowV w2 N 32 e.cs) := hr1.below (by omega) hb2; have HB2 : Hid (Below N w w2) := hb1.trans (hb2.mono (by omega)); have q2 := Lib.hid (row_range HR2.out); obtain ⟨P, hP⟩ : ∃ P, w2.heap.size = P := ⟨_, rfl⟩; have hNP : N + 1 ≤ P := (by have := hb2.size; omega); have hgP : g < P := (by omega); clear hglt hown2 hg2 hb2 hr1 hb1 hs1)
    | ((with_reducible refine at_load 32 ?_); refine wpList_load_mid rfl 32 _ rfl N 0 rfl e.cs _ q2.out Try.underlying32 rfl Hse.out ?_)
    | ((with_reducible refine at_alloc 32 ?_); refine wpList_alloc_rowV rfl 32 rfl zeroEnt.cs Try.zeroEnt11 ?_; intro w3 hr3 hb3 hs3; rw [hP] at hr3 hb3 ⊢)
    | ((with_reducible refine at_store 32 ?_); refine wpList_store_rowV rfl 32 _ _ rfl P e.cs rfl rfl 32 zeroEnt.cs hr3 (by rw [List.size_toArray]; exact ent_size _) (by rw [List.size_toArray, List.size_toArray, Ent.cs_length, Ent.cs_length]) (all_oneCell_toArray (Ent.one _)) ?_; intro w4 hr4 hg4 hs4; have hb4 : Below P w2 w4 := below_grown hb3 hg4 (Nat.le_refl _) (by have := hb3.size; omega); have HO4 : Hid (w4.ownsRow (N + 1) 32 34 (.slice (some ⟨g, 0, none⟩) n cap) n (ents l)) := own_below HO2.out (by rw [hP]; exact hb4); have q4 : Hid (w4.rangeAt N 0 (cells e.adr.1)) := adr_of (row_range (HR2.out.below (by omega) hb4)); have HB4 : Hid (Below N w w4) := HB2.out.trans (hb4.mono (by omega)); have hs4' : P + 1 ≤ w4.heap.size := (by omega); clear hb3 hg4 hs4 hb4 hr3 q2 HO2 HR2 HB2)
    | ((with_reducible refine at_load 23 ?_); refine wpList_load_mid rfl 23 _ rfl N 0 rfl (cells e.adr.1) _ q4.out Try.underlying23 rfl HszE.out ?_))
  refine (rhome_any e.adr.1 e.adr.2 (n : Int) w4 (by omega)).mono ?_
  rintro r w5 ⟨rfl, hb5⟩
  rw [Hr.out]
  have hPlt : P < w4.heap.size := hr4.lt
  have HO5 : Hid (w5.ownsRow (N + 1) 32 34 (.slice (some ⟨g, 0, none⟩) n cap) n (ents l)) := own_below HO4.out hb5
  have HR5 : Hid (RowV w5 P 32 e.cs) := hr4.below hPlt hb5
  have HB5 : Hid (Below N w w5) := HB4.out.trans (hb5.mono (by omega))
  have HZ5 : Hid (P + 1 ≤ w5.heap.size ∧ g < w5.heap.size) := by show _ ∧ _; have := hb5.size; omega
  have HPos5 : Hid (∀ x ∈ l, 0 ≤ x.count) := Hpos.out
  generalize (ruleT n hn).home e.adr = p0 at *
  clear HO4 hr4 HB4 hb5 q4 hs4' hPlt HL Hr
  go_wp2_with fail
  go_loopw [8] (fun s W => ∃ (p : Nat) (l' : List Ent) (x : Ent), p < n ∧ s = .int .i64 p ∧ Hid (Ins n hn S m l' x p ∧ layT l' z = none) ∧ Hid (W.ownsRow (N + 1) 32 34 (.slice (some ⟨g, 0, none⟩) n cap) n (ents l')) ∧ Hid (RowV W P 32 x.cs) ∧ Hid (Below N w W) ∧ Hid (∀ y ∈ l', 0 ≤ y.count) ∧ Hid (0 < x.count)) (fun s _ => farF n (intOf s).toNat z)
  case atStart => exact ⟨p0, l, e, hh, rfl, HG, HO5, HR5, HB5, HPos5, Hep⟩
  case round =>
    obtain ⟨p, l', x, hp, rfl, HK, HO, HR, HB, HP, HX⟩ := hrel
    clear HG HO5 HR5 HB5 HPos5 HZ5
    obtain ⟨f, hf⟩ := HK.out.1.get
    have c1 := ent_count HO.out hf
    have Hf := Lib.hid hf
    have hfpos := HP.out f (List.mem_of_getElem? hf)
    have qF : Hid (wr.rangeAt g (p * 34) f.cs) := ent_range HO.out hf
    have qP := Lib.hid (row_range HR.out)
    have Hsx := Lib.hid (ent_size x)
    have Hsf := Lib.hid (ent_size f)
    have hlen : l'.length = n := HK.out.1.len
    have Hlen' := Lib.hid hlen
    have hPz : P < wr.heap.size := HR.out.lt
    have hp' : (p : Int) < (n : Int) := by omega
    have hp0 : (0 : Int) ≤ (p : Int) := by omega
    have hri : ((p : Int) + 1) % (n : Int) = ((nextP n p : Nat) : Int) := by rw [← nextP_mod hp]; exact (Int.natCast_emod (p + 1) n).symm
    have hnp := nextP_lt hp
    have hset := fun W (h : W.ownsRow (N + 1) 32 34 (.slice (some ⟨g, 0, none⟩) n cap) n (ents l')) => own_put x.cs (p * 34) W (ents l') h (by rw [Ent.cs_length]; omega)
    rw [ents_put (by rw [hlen]; exact hp)] at hset
    have Hset := Lib.hid hset
    clear hf hlen hset
    by_cases cf : f.count = 0
    · have HFin := Lib.hid (HK.out.1.rest Hf.out cf)
      have hposn : ∀ y ∈ l'.set p x, 0 ≤ y.count := by
        intro y hy
        rcases List.mem_or_eq_of_mem_set hy with h1 | rfl
        · exact HP.out y h1
        · exact Int.le_of_lt HX.out
      have Hposn := Lib.hid hposn
      have ht : wr.there g (p * 34) 34 := own_there HO.out _ _ (by omega)
      rw [cf] at c1
      clear hposn hfpos
      go_wp2_with (first
        | ((with_reducible refine at_load 32 ?_); refine wpList_load_mid rfl 32 _ rfl P 0 rfl x.cs _ qP.out Try.underlying32 rfl Hsx.out ?_)
        | ((with_reducible refine at_store 32 ?_); refine wpList_store_midV rfl 32 _ _ rfl g (p * 34) x.cs rfl rfl (by rw [List.size_toArray, Ent.cs_length]; exact ht) (by rw [List.size_toArray]; exact ent_size _) (all_oneCell_toArray (Ent.one _)) ?_; intro w6 hw6; subst hw6))
      go_ret
      have hfin := Hset.out wr HO.out
      have hown := own_rebase (base' := N) hfin.1 (fun k e => by have : N + 1 ≤ k := own_ge hfin.1 k e; omega)
      refine ⟨_, rfl, _, ⟨hown, HFin.out.1, Hposn.out⟩, by rw [HM.out]; exact HFin.out.2.1, fun y => by have := HFin.out.2.2 y; rw [← HS.out] at this; exact this, ?_⟩
      try rw [hN]
      exact HB.out.grown hfin.2 (by have := HB.out.size; omega) (fun k e => by injection e with e; omega)
    · have hfp : 0 < f.count := by omega
      have HszX := Lib.hid (adr_size x.adr)
      have HszF := Lib.hid (adr_size f.adr)
      have q1 : Hid (wr.drew.rangeAt P 0 (cells x.adr.1)) := adr_of qP.out
      have q2 : Hid (wr.drew.rangeAt g (p * 34) (cells f.adr.1)) := adr_of qF.out
      have hHP : Hid (0 < f.count) := hfp
      go_wp2_with fail
      refine wp_region_still_tail 9 (by kernel_rfl) (by kernel_rfl) ?_
      simp only [List.take_succ_cons, List.take_zero, List.drop_succ_cons, List.drop_zero]
      still_step
      refine wpStill_exec (.agg (cells x.adr.1).toArray) rfl (by refine exec_load_mid 23 (.tmp 26) ?_ P 0 ?_ (cells x.adr.1) _ q1.out Try.underlying23 rfl HszX.out <;> rfl) ?_
      try simp only [Act.put, List.setIfInBounds_toArray, List.set_cons_zero, List.set_cons_succ]
      iterate 4 still_step
      refine wpStill_exec (.agg (cells f.adr.1).toArray) rfl (by refine exec_load_mid 23 (.tmp 31) ?_ g (p * 34) ?_ (cells f.adr.1) _ q2.out Try.underlying23 rfl HszF.out <;> rfl) ?_
      try simp only [Act.put, List.setIfInBounds_toArray, List.set_cons_zero, List.set_cons_succ]
      iterate 2 still_step
      refine wpStill_nil ?_
      change wpList _ _ _ _ _ wr.drew
      have HOd : Hid (wr.drew.ownsRow (N + 1) 32 34 (.slice (some ⟨g, 0, none⟩) n cap) n (ents l')) := HO.out.drew
      have HRd : Hid (RowV wr.drew P 32 x.cs) := HR.out.drew
      have HBd : Hid (Below N w wr.drew) := HB.out.drew
      have hPd : P < wr.drew.heap.size := hPz
      clear HO HR HB q1 q2 qF qP c1 hPz hfpos
      generalize wr.drew = wd at *
      go_wp2_with fail
      refine (rgoes_any wd n hn (by omega) x.adr f.adr p hp).mono ?_
      rintro r w6 ⟨rfl, hb6⟩
      have HO6 : Hid (w6.ownsRow (N + 1) 32 34 (.slice (some ⟨g, 0, none⟩) n cap) n (ents l')) := own_below HOd.out hb6
      have HR6 : Hid (RowV w6 P 32 x.cs) := HRd.out.below hPd hb6
      have HB6 : Hid (Below N w w6) := HBd.out.trans (hb6.mono (by omega))
      have hP6 : P < w6.heap.size := HR6.out.lt
      clear HOd HRd HBd hPd hb6
      by_cases hy : goesB n hn x.adr f.adr p = true
      · rw [hy]
        have hg' := goesB_iff.1 hy
        have H1 : Hid (Ins n hn S m (l'.set p x) f (nextP n p) ∧ layT (l'.set p x) z = none) := by
          have hzp : z ≠ p := by rintro rfl; have := HK.out.2; rw [layT_at Hf.out, if_neg cf] at this; cases this
          refine ⟨(HK.out.1.swapped Hf.out cf hg').1, ?_⟩
          rw [layT_set (by rw [Hlen'.out]; exact hp) HK.out.1.real, putP_other _ _ hzp]
          exact HK.out.2
        have H2 := Lib.hid (HK.out.1.toward Hf.out cf hz HK.out.2)
        have H3 : Hid (∀ y ∈ l'.set p x, 0 ≤ y.count) := by
          intro y hy
          rcases List.mem_or_eq_of_mem_set hy with h1 | rfl
          · exact HP.out y h1
          · exact Int.le_of_lt HX.out
        have qF : Hid (w6.rangeAt g (p * 34) f.cs) := ent_range HO6.out Hf.out
        obtain ⟨M, hM⟩ : ∃ M, w6.heap.size = M := ⟨_, rfl⟩
        rw [hM] at hP6
        clear hy hg'
        go_wp2_with (first
          | ((with_reducible refine at_load 32 ?_); refine wpList_load_mid rfl 32 _ rfl g (p * 34) rfl f.cs _ qF.out Try.underlying32 rfl Hsf.out ?_)
          | ((with_reducible refine at_alloc 32 ?_); refine wpList_alloc_rowV rfl 32 rfl zeroEnt.cs Try.zeroEnt11 ?_; intro w7 hr7 hb7 hs7; rw [hM] at hr7 hb7 ⊢)
          | ((with_reducible refine at_store 32 ?_); refine wpList_store_rowV rfl 32 _ _ rfl M f.cs rfl rfl 32 zeroEnt.cs hr7 (by rw [List.size_toArray]; exact ent_size _) (by rw [List.size_toArray, List.size_toArray, Ent.cs_length, Ent.cs_length]) (all_oneCell_toArray (Ent.one _)) ?_; intro w8 hr8 hg8 hs8; have hb8 : Below M w6 w8 := below_grown hb7 hg8 (Nat.le_refl _) (by have := hb7.size; omega); have HO8 : Hid (w8.ownsRow (N + 1) 32 34 (.slice (some ⟨g, 0, none⟩) n cap) n (ents l')) := own_below HO6.out (by rw [hM]; exact hb8); have HR8 : Hid (RowV w8 P 32 x.cs) := HR6.out.below hP6 hb8; have HB8 : Hid (Below N w w8) := HB6.out.trans (hb8.mono (by omega)); have q8 := Lib.hid (row_range HR8.out); have ht8 : w8.there g (p * 34) 34 := own_there HO8.out _ _ (by omega); clear hb7 hg8 hs8 hb8 hr7 qF HO6 HR6 HB6)
          | ((with_reducible refine at_load 32 ?_); refine wpList_load_mid rfl 32 _ rfl P 0 rfl x.cs _ q8.out Try.underlying32 rfl Hsx.out ?_)
          | ((with_reducible refine at_store 32 ?_); refine wpList_store_midV rfl 32 _ _ rfl g (p * 34) x.cs rfl rfl (by rw [List.size_toArray, Ent.cs_length]; exact ht8) (by rw [List.size_toArray]; exact ent_size _) (all_oneCell_toArray (Ent.one _)) ?_; intro w9 hw9; have hs9 := Hset.out w8 HO8.out; rw [← hw9] at hs9; have HO9 := Lib.hid hs9.1; have HR9 : Hid (RowV w9 P 32 x.cs) := HR8.out.keep hs9.2 (fun e => by injection e with e; omega); have HB9 : Hid (Below N w w9) := HB8.out.grown hs9.2 (by have := HB8.out.size; omega) (fun k e => by injection e with e; omega); have hr9 : RowV w9 M 32 f.cs := hr8.keep hs9.2 (fun e => by injection e with e; omega); have q9 := Lib.hid (row_range hr9); clear hw9 hs9 HO8 HR8 HB8 q8 ht8 hr8)
          | ((with_reducible refine at_load 32 ?_); refine wpList_load_mid rfl 32 _ rfl M 0 rfl f.cs _ q9.out Try.underlying32 rfl Hsf.out ?_)
          | ((with_reducible refine at_store 32 ?_); refine wpList_store_rowV rfl 32 _ _ rfl P f.cs rfl rfl 32 x.cs HR9.out (by rw [List.size_toArray]; exact ent_size _) (by rw [List.size_toArray, List.size_toArray, Ent.cs_length, Ent.cs_length]) (all_oneCell_toArray (Ent.one _)) ?_; intro w10 hr10 hg10 hs10; have HO10 : Hid (w10.ownsRow (N + 1) 32 34 (.slice (some ⟨g, 0, none⟩) n cap) n (ents (l'.set p x))) := HO9.out.kept hg10 (.inr (fun e => by have e2 : some g = some P := e; injection e2 with e2; omega)); have HB10 : Hid (Below N w w10) := HB9.out.grown hg10 (by have := HB9.out.size; omega) (fun k e => by injection e with e; omega); have HR10 := Lib.hid hr10; clear hr10 hg10 hs10 HO9 HR9 HB9 hr9 q9))
        go_roundw
        case rel => exact ⟨nextP n p, l'.set p x, f, hnp, by go_num, H1, HO10, HR10, HB10, H3, hHP⟩
        case measure => have := H2.out; rw [hri]; simp [intOf]; omega
      · rw [Bool.eq_false_iff.2 hy]
        have hg' : ¬ (ruleT n hn).goes x.adr f.adr p := fun h => hy (goesB_iff.2 h)
        have H1 : Hid (Ins n hn S m l' x (nextP n p) ∧ layT l' z = none) := ⟨(HK.out.1.pass Hf.out cf hg').1, HK.out.2⟩
        have H2 := Lib.hid (HK.out.1.toward Hf.out cf hz HK.out.2)
        clear hy hg'
        go_wp2_with fail
        go_roundw
        case rel => exact ⟨nextP n p, l', x, hnp, by go_num, H1, HO6, HR6, HB6, HP, HX⟩
        case measure => have := H2.out; rw [hri]; simp [intOf]; omega
end Go.Proofs.Ytkkllmjomdbndaa
namespace Go.Proofs.Ytkkllmjomdbndaa
open Go.RowKit
set_option linter.unusedVariables false
set_option linter.unusedSimpArgs false

/-- Places that are a table's. -/
def TabOK (l : List Ent) : Prop := ∃ hn : 0 < l.length, l.length ≤ 406 ∧ Tb l.length hn l ∧ ∀ e ∈ l, e.count ≠ 0 → e.ok
/-- What the first k of l's places have made of a table. -/
structure Reads (n : Nat) (hn : 0 < n) (l : List Ent) (k : Nat) (l' : List Ent) : Prop where
  tb : Tb n hn l'
  ok : ∀ e ∈ l.take k, e ≠ zeroEnt → e.ok
  told : Tb n hn l → (∀ x : Ent, x.count ≠ 0 → (x ∈ l' ↔ x ∈ l.take k)) ∧ cntT l' = cntT (l.take k)
section
variable {n : Nat} {hn : 0 < n} {l l' l'' : List Ent} {k : Nat} {e : Ent}
theorem Reads.start (hn : 0 < n) (l : List Ent) : Reads n hn l 0 (List.replicate n zeroEnt) := by
  refine ⟨Tb.new n hn, by simp, fun _ => ⟨fun x hx => ?_, ?_⟩⟩
  · constructor
    · intro h; have := List.eq_of_mem_replicate h; subst this; exact absurd rfl hx
    · simp
  · simp [cntT, zeroEnt]
theorem Reads.skip (h : Reads n hn l k l') (he : l[k]? = some e) (hz : e = zeroEnt) : Reads n hn l (k + 1) l' := by
  have z0 : e.count = 0 := by rw [hz]; rfl
  refine ⟨h.tb, fun x hx hne => ?_, fun ht => ?_⟩
  · rw [take_snoc he] at hx
    rcases List.mem_append.1 hx with h1 | h1
    · exact h.ok x h1 hne
    · exact absurd (List.mem_singleton.1 h1 ▸ hz) hne
  · obtain ⟨a, b⟩ := h.told ht
    refine ⟨fun x hx => ?_, by rw [cntT_take he, if_pos z0, b]; rfl⟩
    rw [take_snoc he, List.mem_append, a x hx]
    constructor
    · exact .inl
    · rintro (h1 | h1)
      · exact h1
      · rw [List.mem_singleton.1 h1] at hx; exact absurd z0 hx
/-- No two of them have one address. -/
theorem Tb.before (ht : Tb n hn l) (he : l[k]? = some e) (hc : e.count ≠ 0) : ∀ x ∈ l.take k, x.count ≠ 0 → x.adr ≠ e.adr := by
  intro x hx hxc ha
  obtain ⟨j, hj, rfl⟩ := List.mem_iff_getElem.1 hx
  have hjk : j < k := by rw [List.length_take] at hj; omega
  have h1 : l[j]? = some (l.take k)[j] := by
    rw [List.getElem_take]
    exact List.getElem?_eq_getElem (by rw [List.length_take] at hj; omega)
  have := ht.same h1 he hxc hc ha
  omega
theorem Reads.put (h : Reads n hn l k l') (he : l[k]? = some e) (hne : e ≠ zeroEnt) {code : Int} (hp : PutP n hn l' e code l'') (hc : code = 0) : Reads n hn l (k + 1) l'' := by
  subst hc
  have key : e.ok ∧ ((cntT l'' = cntT l' ∧ ∃ f ∈ l', f.count ≠ 0 ∧ f.adr = e.adr) ∨ cntT l'' = cntT l' + 1) ∧ ∀ x : Ent, x.count ≠ 0 → (x ∈ l'' ↔ (x ∈ l' ∧ x.adr ≠ e.adr) ∨ x = e) := by
    rcases hp.what with ⟨_, h1, _⟩ | ⟨h1, h2, _, h3, h4⟩ | ⟨_, _, _, h1, _⟩ | ⟨h1, _, _, _, h3, h4⟩
    · cases h1
    · exact ⟨h1, .inl ⟨h3, h2⟩, h4⟩
    · cases h1
    · exact ⟨h1, .inr h3, h4⟩
  obtain ⟨k1, k2, k3⟩ := key
  refine ⟨hp.tb, fun x hx hxz => ?_, fun ht => ?_⟩
  · rw [take_snoc he] at hx
    rcases List.mem_append.1 hx with h1 | h1
    · exact h.ok x h1 hxz
    · rw [List.mem_singleton.1 h1]; exact k1
  · obtain ⟨a, b⟩ := h.told ht
    have hb := ht.before he k1.real
    have hno : ∀ f ∈ l', f.count ≠ 0 → f.adr ≠ e.adr := fun f hf hfc => hb f ((a f hfc).1 hf) hfc
    refine ⟨fun x hx => ?_, ?_⟩
    · rw [k3 x hx, take_snoc he, List.mem_append, List.mem_singleton, a x hx]
      constructor
      · exact fun h => h.imp (·.1) id
      · exact fun h => h.imp (fun h1 => ⟨h1, hb x h1 hx⟩) id
    · rw [cntT_take he, if_neg k1.real, ← b]
      rcases k2 with ⟨_, f, hf, hfc, hfa⟩ | h1
      · exact absurd hfa (hno f hf hfc)
      · exact h1
/-- A place that is not taken: then l is no table's. -/
theorem Reads.bad (h : Reads n hn l k l') (hl : l.length = n) (he : l[k]? = some e) (hne : e ≠ zeroEnt) {code : Int} (hp : PutP n hn l' e code l'') (hc : code ≠ 0) : ¬ (Tb n hn l ∧ ∀ e ∈ l, e.count ≠ 0 → e.ok) := by
  rintro ⟨ht, hok⟩
  have hm := List.mem_of_getElem? he
  have hce : e.count ≠ 0 := fun h0 => hne (ht.zero e hm h0)
  obtain ⟨a, b⟩ := h.told ht
  have hroom := ht.room
  have hcnt : cntT (l.take (k + 1)) ≤ cntT l := by
    have := List.take_append_drop (k + 1) l
    unfold cntT
    conv => rhs; rw [← this]
    rw [List.countP_append]
    omega
  rw [cntT_take he, if_neg hce] at hcnt
  rcases hp.what with ⟨h1, _⟩ | ⟨_, _, h1, _⟩ | ⟨_, _, h1, _⟩ | ⟨_, _, _, h1, _⟩
  · exact h1 (hok e hm hce)
  · exact hc h1
  · omega
  · exact hc h1
theorem Reads.same (h : Reads n hn l n l') (hl : l.length = n) (ht : Tb n hn l) : l' = l :=
  Tb.one h.tb ht fun x hx => by rw [(h.told ht).1 x hx, List.take_of_length_le (by omega)]
end

/-- What Of answers. -/
def OfP (w w' : World) (l : List Ent) (r : Ending) : Prop :=
  (TabOK l ∧ ∃ b g c, r = .returned (.tuple #[.pointer (some ⟨b, 0, none⟩), .bool true]) ∧ TabAt w' b g c l.length l ∧ w.heap.size ≤ b ∧ w.heap.size ≤ g) ∨ (¬ TabOK l ∧ r = .returned (.tuple #[.pointer none, .bool false]))

set_option maxRecDepth 100000 in
set_option maxHeartbeats 8000000 in
theorem tof_any (w : World) (B m c : Nat) (A : Option Addr) (l : List Ent) (h : LiesV w B A (ents l)) (hm : m = l.length) (hB : B ≤ w.heap.size) (hc : m ≤ c) (hle : m ≤ 1000) :
    Calls Try.prog 19 #[.slice A m c] w fun r w' => OfP w w' l r ∧ Below w.heap.size w w' := by
  have HL := Lib.hid h
  have Hm := Lib.hid hm
  clear h hm
  go_enter Try.func19, Try.ntmps19
  go_wp2_with fail
  refine (tnew_any w (m : Int)).mono ?_
  intro r w1 hnew
  by_cases hr : 1 ≤ (m : Int) ∧ (m : Int) ≤ 406
  · unfold New11V at hnew
    rw [if_pos hr, Int.toNat_natCast] at hnew
    obtain ⟨b, g, rfl, hT1, hb, hg, hb1⟩ := hnew
    have hn : 0 < m := by omega
    have HT1 := Lib.hid hT1
    have HS := Lib.hid (Reads.start hn l)
    have HB1 := Lib.hid hb1
    have hle2 : m ≤ 406 := by omega
    have hbl := hT1.blt
    have hgl := hT1.glt
    clear hT1 hb1
    obtain ⟨N, hN⟩ : ∃ N, w.heap.size = N := ⟨_, rfl⟩
    rw [hN] at hb hg HB1 hB
    have hz := build_ent0
    obtain ⟨N1, hN1⟩ : ∃ N1, w1.heap.size = N1 := ⟨_, rfl⟩
    have hN1' : N ≤ N1 := by have := HB1.out.size; omega
    go_wp2_with fail
    go_loopw [18] (fun v W => ∃ (k c' : Nat) (l' : List Ent), k ≤ m ∧ v = .int .i64 k ∧ Hid (Reads m hn l k l') ∧ Hid (TabAt W b g c' m l') ∧ Hid (Below N w W) ∧ Hid (N ≤ W.heap.size)) (fun v _ => m - (intOf v).toNat)
    case atStart => exact ⟨0, m, _, Nat.zero_le _, rfl, HS, HT1, HB1, by show _ ≤ _; omega⟩
    case round =>
      obtain ⟨k, c', l', hk, rfl, HK, HT, HB, HZ⟩ := hrel
      clear HT1 HS HB1
      by_cases hlt : k < m
      · have hlt' : (k : Int) < (m : Int) := by omega
        have hk0 : (0 : Int) ≤ (k : Int) := by omega
        obtain ⟨e, he⟩ : ∃ e, l[k]? = some e := ⟨_, List.getElem?_eq_getElem (by rw [← Hm.out]; exact hlt)⟩
        obtain ⟨ba, oa, hA, hba, hra⟩ := lies_ent (HL.out.below (HB.out.mono hB)) he
        subst hA
        have He := Lib.hid he
        have Hra := Lib.hid hra
        have Hse := Lib.hid (ent_size e)
        clear he hra
        obtain ⟨M, hM⟩ : ∃ M, wr.heap.size = M := ⟨_, rfl⟩
        have hNM : N ≤ M := by have := HZ.out; omega
        have hTlt : b < M ∧ g < M := by rw [← hM]; exact ⟨HT.out.blt, HT.out.glt⟩
        by_cases hez : e = zeroEnt
        · have HK1 := Lib.hid (HK.out.skip He.out hez)
          have Hez := Lib.hid hez
          clear hez
          go_wp2_with (first
            | ((with_reducible refine at_load 32 ?_); refine wpList_load_mid rfl 32 _ rfl ba (oa + k * 34) rfl e.cs _ Hra.out Try.underlying32 rfl Hse.out ?_)
            | ((with_reducible refine at_load 32 ?_); refine wpList_load_mid rfl 32 _ rfl M 0 rfl e.cs _ q4.out Try.underlying32 rfl Hse.out ?_)
            | ((with_reducible refine at_loadG 32 ?_); refine wpList_load_midG rfl 32 _ rfl M 0 rfl e.cs _ q4.out Try.underlying32 rfl Hse.out ?_)
            | ((with_reducible refine at_alloc 32 ?_); refine wpList_alloc_rowV rfl 32 rfl zeroEnt.cs Try.zeroEnt11 ?_; intro w3 hr3 hb3 hs3; rw [hM] at hr3 hb3 ⊢)
            | ((with_reducible refine at_store 32 ?_); refine wpList_store_rowV rfl 32 _ _ rfl M e.cs rfl rfl 32 zeroEnt.cs hr3 (by rw [List.size_toArray]; exact ent_size _) (by rw [List.size_toArray, List.size_toArray, Ent.cs_length, Ent.cs_length]) (all_oneCell_toArray (Ent.one _)) ?_; intro w4 hr4 hg4 hs4; have q4 := Lib.hid (row_range hr4); have E4 := Lib.hid (eq_ent w4 e zeroEnt); rw [decide_eq_true Hez.out] at E4)
            | ((with_reducible refine at_build 32 ?_); refine wpList_build_to rfl 32 _ rfl zeroEnt.cs Try.builtE0 ?_)
            | ((with_reducible refine at_neq 32 ?_); refine wpList_neqS rfl 32 _ _ 32 rfl (by kernel_rfl) (xs := e.cs.toArray) (ys := zeroEnt.cs.toArray) rfl rfl E4.out ?_))
          have hb4 : Below M wr w4 := below_grown hb3 hg4 (Nat.le_refl _) (by have := hb3.size; omega)
          have HT4 : Hid (TabAt w4 b g c' m l') := HT.out.below hb4 hTlt.1 hTlt.2
          have HB4 : Hid (Below N w w4) := HB.out.trans (hb4.mono hNM)
          have hN4 : N ≤ w4.heap.size := by have := hb4.size; omega
          clear HT HB hr3 hb3 hs3 hg4 hs4 hb4 hr4 q4 E4
          go_roundw
          case rel => exact ⟨k + 1, c', l', by omega, by go_num, HK1, HT4, HB4, hN4⟩
          case measure => simp [intOf]; omega
        · have Hez := Lib.hid hez
          clear hez
          go_wp2_with (first
            | ((with_reducible refine at_load 32 ?_); refine wpList_load_mid rfl 32 _ rfl ba (oa + k * 34) rfl e.cs _ Hra.out Try.underlying32 rfl Hse.out ?_)
            | ((with_reducible refine at_load 32 ?_); refine wpList_load_mid rfl 32 _ rfl M 0 rfl e.cs _ q4.out Try.underlying32 rfl Hse.out ?_)
            | ((with_reducible refine at_loadG 32 ?_); refine wpList_load_midG rfl 32 _ rfl M 0 rfl e.cs _ q4.out Try.underlying32 rfl Hse.out ?_)
            | ((with_reducible refine at_alloc 32 ?_); refine wpList_alloc_rowV rfl 32 rfl zeroEnt.cs Try.zeroEnt11 ?_; intro w3 hr3 hb3 hs3; rw [hM] at hr3 hb3 ⊢)
            | ((with_reducible refine at_store 32 ?_); refine wpList_store_rowV rfl 32 _ _ rfl M e.cs rfl rfl 32 zeroEnt.cs hr3 (by rw [List.size_toArray]; exact ent_size _) (by rw [List.size_toArray, List.size_toArray, Ent.cs_length, Ent.cs_length]) (all_oneCell_toArray (Ent.one _)) ?_; intro w4 hr4 hg4 hs4; have q4 := Lib.hid (row_range hr4); have E4 := Lib.hid (eq_ent w4 e zeroEnt); rw [decide_eq_false Hez.out] at E4)
            | ((with_reducible refine at_build 32 ?_); refine wpList_build_to rfl 32 _ rfl zeroEnt.cs Try.builtE0 ?_)
            | ((with_reducible refine at_neq 32 ?_); refine wpList_neqS rfl 32 _ _ 32 rfl (by kernel_rfl) (xs := e.cs.toArray) (ys := zeroEnt.cs.toArray) rfl rfl E4.out ?_))
          have hb4 : Below M wr w4 := below_grown hb3 hg4 (Nat.le_refl _) (by have := hb3.size; omega)
          have HT4 : Hid (TabAt w4 b g c' m l') := HT.out.below hb4 hTlt.1 hTlt.2
          have HB4 : Hid (Below N w w4) := HB.out.trans (hb4.mono hNM)
          have hN4 : N ≤ w4.heap.size := by have := hb4.size; omega
          clear HT HB hr3 hb3 hs3 hg4 hs4 hb4 hr4 q4 E4
          refine (tput_any w4 b g c' m hn l' HT4.out HK.out.tb e).mono ?_
          rintro r w5 ⟨code, l2, rfl, hT5, hp, hB5⟩
          have HT5 := Lib.hid hT5
          have HB5 : Hid (Below N w w5) := HB4.out.trans ((hB5.less hN4).below (fun k hk => by rw [List.mem_singleton.1 hk]; exact hg))
          have hN5 : N ≤ w5.heap.size := by have := hB5.size; omega
          clear hT5 hB5 HT4 HB4
          by_cases hcode : code = 0
          · have HK1 := Lib.hid (HK.out.put He.out Hez.out hp hcode)
            have hd : (code == 0) = true := by rw [beq_iff_eq]; exact hcode
            clear hp
            go_wp2_with fail
            go_roundw
            case rel => exact ⟨k + 1, c', l2, by omega, by go_num, HK1, HT5, HB5, hN5⟩
            case measure => simp [intOf]; omega
          · have hbad := HK.out.bad Hm.out.symm He.out Hez.out hp hcode
            have Hbad : Hid (¬ TabOK l) := by
              rintro ⟨_, _, h3, h4⟩
              obtain rfl := Hm.out
              exact hbad ⟨h3, h4⟩
            have hd : (code == 0) = false := by rw [beq_eq_false_iff_ne]; exact hcode
            clear hp hbad
            go_wp2_with fail
            go_ret2
            exact ⟨.inr ⟨Hbad.out, rfl⟩, by rw [hN]; exact HB5.out⟩
      · obtain rfl : k = m := by omega
        obtain ⟨A', c2, hv, -, hcap2, -, hl2⟩ := lies_ownE HT.out.row
        injection hv with e1 e2 e3
        subst e1 e3
        have c0 := HT.out.ptr.cell
        have HL2 := Lib.hid hl2
        have hlen' := Lib.hid HT.out.len
        have Hcap2 := Lib.hid hcap2
        clear hl2 hz hcap2 hlt hk
        have HL3 : Hid (LiesV wr wr.heap.size A (ents l)) := (HL.out.below (HB.out.mono hB)).le (by have := HZ.out; omega)
        have hk3 : k ≤ 9223372036854775807 := by omega
        go_wp2_with fail
        refine (equal11_any wr wr.heap.size k c' k c (some ⟨g, 0, none⟩) A l' l HL2.out HL3.out hlen'.out.symm Hm.out (Nat.le_refl _) hle hk3 Hcap2.out hc).mono ?_
        rintro r w3 ⟨rfl, hb3⟩
        have HT3 : Hid (TabAt w3 b g c' k l') := HT.out.later hb3
        have HB3 : Hid (Below N w w3) := HB.out.trans (hb3.mono HZ.out)
        clear hb3 HT HB
        by_cases heq : l' = l
        · rw [decide_eq_true heq]
          have Hok : Hid (TabOK l) := by
            obtain rfl := Hm.out
            refine ⟨hn, hle2, heq ▸ HK.out.tb, fun e he hce => HK.out.ok e (by rw [List.take_of_length_le (Nat.le_refl _)]; exact he) (fun h0 => ?_)⟩
            rw [h0] at hce
            exact hce rfl
          go_wp2_with fail
          go_ret2
          refine ⟨.inl ⟨Hok.out, b, g, c', rfl, ?_, by rw [hN]; exact hb, by rw [hN]; exact hg⟩, by rw [hN]; exact HB3.out⟩
          rw [← Hm.out]
          exact heq ▸ HT3.out
        · rw [decide_eq_false heq]
          have Hbad : Hid (¬ TabOK l) := by
            obtain rfl := Hm.out
            rintro ⟨_, _, h3, _⟩
            exact heq (HK.out.same rfl h3)
          go_wp2_with fail
          go_ret2
          exact ⟨.inr ⟨Hbad.out, rfl⟩, by rw [hN]; exact HB3.out⟩
  · unfold New11V at hnew
    rw [if_neg hr] at hnew
    obtain ⟨rfl, rfl⟩ := hnew
    have Hbad : Hid (¬ TabOK l) := by
      rintro ⟨h1, h2, _⟩
      exact hr (by rw [Hm.out]; omega)
    go_wp2_with fail
    go_ret2
    exact ⟨.inr ⟨Hbad.out, rfl⟩, Below.refl _ _⟩
end Go.Proofs.Ytkkllmjomdbndaa
namespace Go.Proofs.Ytkkllmjomdbndaa
open Go.RowKit
set_option linter.unusedVariables false
set_option linter.unusedSimpArgs false

/-- What a table and a list share. -/
structure Like (n : Nat) (hn : 0 < n) (l r : List Ent) : Prop where
  tb : Tb n hn l
  mem : ∀ x : Ent, x.count ≠ 0 → (x ∈ l ↔ x ∈ r)
  ok : ∀ x ∈ r, x.ok
  dst : Dst r
  cnt : cntT l = r.length
theorem Dst.take {l : List Ent} (h : Dst l) (k : Nat) : Dst (l.take k) := List.Pairwise.sublist (List.take_sublist k l) h
theorem Dst.snoc_of {l : List Ent} (h : Dst l) {k : Nat} {e : Ent} (he : l[k]? = some e) : ∀ x ∈ l.take k, x.adr ≠ e.adr := by
  have h1 := h.take (k + 1)
  rw [take_snoc he] at h1
  exact (Dst.snoc.1 h1).2

set_option maxRecDepth 100000 in
set_option maxHeartbeats 8000000 in
theorem rplaces_any (w : World) (v : Value) (r : List Ent) (n : Nat) (hn : 0 < n) (hle : n ≤ 900) (h : RowE w v r) (hok : ∀ x ∈ r, x.ok) (hd : Dst r) (hr : r.length < n) :
    Calls Try.prog 16 #[v, .int .i64 (n : Int)] w fun e w' => ∃ v', e = .returned v' ∧ ∃ l', w'.ownsRow w.heap.size 32 34 v' n (ents l') ∧ Like n hn l' r ∧ Below w.heap.size w w' := by
  obtain ⟨A, c, rfl, hc, hl⟩ := h
  obtain ⟨i0, hi, hz0, hz1, hz2⟩ := info_parts Try.infoE
  have HL := Lib.hid hl
  have Hok := Lib.hid hok
  have Hd := Lib.hid hd
  obtain ⟨m, hm⟩ : ∃ m, r.length = m := ⟨_, rfl⟩
  have Hm := Lib.hid hm
  rw [hm] at hr hc ⊢
  clear hl hok hd hm
  go_enter Try.func16, Try.ntmps16
  go_wp2_with (at_make; refine wpList_make_full _ rfl _ _ 26 rfl w.heap.size 32 i0 (.agg zeroEnt.cs.toArray) 34 Try.underlying26 hi hz0 hz1 .i64 .i64 _ _ n rfl rfl rfl rfl (by rw [hz2]; omega) (by unfold maxLen; omega) (Nat.le_refl _) ?_)
  intro w1 hown hg1
  rw [zero_ents] at hown
  have hb1 : Below w.heap.size w w1 := (Below.refl _ _).grown hg1 (Nat.le_refl _) (by simp)
  obtain ⟨N, hN⟩ : ∃ N, w.heap.size = N := ⟨_, rfl⟩
  have HL0 : Hid (LiesV w N A (ents r)) := by rw [← hN]; exact HL.out
  rw [hN] at hown hb1 ⊢
  have HO1 : Hid (LayAt w1 N (.slice (some ⟨N, 0, none⟩) n n) n hn (List.replicate n zeroEnt)) := ⟨hown, Tb.new n hn, fun x hx => by rw [List.eq_of_mem_replicate hx]; decide⟩
  have HM1 : Hid (∀ x : Ent, x.count ≠ 0 → (x ∈ List.replicate n zeroEnt ↔ x ∈ r.take 0)) := fun x hx => by
    constructor
    · intro h; rw [List.eq_of_mem_replicate h] at hx; exact absurd rfl hx
    · simp
  have HC1 : Hid (cntT (List.replicate n zeroEnt) = 0) := by show _ = _; simp [cntT, zeroEnt]
  have HB1 := Lib.hid hb1
  have hs1 : N ≤ w1.heap.size := by have := hb1.size; omega
  clear hown hg1 hb1
  go_wp2_with fail
  go_loopw [5, 6] (fun v5 v W => ∃ (k : Nat) (l' : List Ent), k ≤ m ∧ v = .int .i64 k ∧ Hid (LayAt W N v5 n hn l') ∧ Hid (∀ x : Ent, x.count ≠ 0 → (x ∈ l' ↔ x ∈ r.take k)) ∧ Hid (cntT l' = k) ∧ Hid (Below N w W) ∧ Hid (N ≤ W.heap.size)) (fun _ v _ => m - (intOf v).toNat)
  case atStart => exact ⟨0, _, Nat.zero_le _, rfl, HO1, HM1, HC1, HB1, hs1⟩
  case round =>
    obtain ⟨k, l', hk, rfl, HO, HM, HC, HB, HZ⟩ := hrel
    clear HO1 HM1 HC1 HB1 hs1
    by_cases hlt : k < m
    · have hlt' : (k : Int) < (m : Int) := by omega
      have hk0 : (0 : Int) ≤ (k : Int) := by omega
      obtain ⟨e, he⟩ : ∃ e, r[k]? = some e := ⟨_, List.getElem?_eq_getElem (by rw [Hm.out]; exact hlt)⟩
      obtain ⟨b, o, hA, hb, hra⟩ := lies_ent (HL0.out.below HB.out) he
      subst hA
      have Hra := Lib.hid hra
      have Hse := Lib.hid (ent_size e)
      have He := Lib.hid he
      have heok := Hok.out e (List.mem_of_getElem? he)
      have Heok := Lib.hid heok
      have hz := HZ.out
      have HN : Hid (∀ f ∈ l', f.count ≠ 0 → f.adr ≠ e.adr) := fun f hf hfc => Hd.out.snoc_of He.out f ((HM.out f hfc).1 hf)
      have hroom : cntT l' + 1 < n := by rw [HC.out]; omega
      have Hroom := Lib.hid hroom
      clear he hra heok hroom
      go_wp2_with ((with_reducible refine at_load 32 ?_); refine wpList_load_mid rfl 32 _ rfl b (o + k * 34) rfl e.cs _ Hra.out Try.underlying32 rfl Hse.out ?_)
      refine (rlay_any wr N n hn _ l' HO.out hle e Heok.out HN.out Hroom.out).mono ?_
      rintro r2 w2 ⟨v2, rfl, l2, hO2, hc2, hm2, hb2⟩
      have HO2 : Hid (LayAt w2 N v2 n hn l2) := ⟨own_rebase (base' := N) hO2.row (fun k e => by have := own_ge hO2.row k e; omega), hO2.tb, hO2.pos⟩
      have HM2 : Hid (∀ x : Ent, x.count ≠ 0 → (x ∈ l2 ↔ x ∈ r.take (k + 1))) := by
        intro x hx
        rw [take_snoc He.out, List.mem_append, List.mem_singleton, ← HM.out x hx]
        constructor
        · intro h
          exact ((hm2 x).1 ⟨h, hx⟩).imp (·.1) id
        · intro h
          exact ((hm2 x).2 (h.imp (fun h => ⟨h, hx⟩) id)).1
      have HC2 : Hid (cntT l2 = k + 1) := by show _ = _; rw [hc2, HC.out]
      have HB2 : Hid (Below N w w2) := HB.out.trans (hb2.mono hz)
      have hz2 : N ≤ w2.heap.size := by have := hb2.size; omega
      clear hO2 hc2 hm2 hb2 HO HM HC HB HZ
      go_wp2_with fail
      go_roundw
      case rel => exact ⟨k + 1, l2, by omega, by go_num, HO2, HM2, HC2, HB2, hz2⟩
      case measure => simp [intOf]; omega
    · obtain rfl : k = m := by omega
      have HLk : Hid (Like n hn l' r) := by
        refine ⟨HO.out.tb, fun x hx => ?_, Hok.out, Hd.out, by rw [HC.out, Hm.out]⟩
        rw [HM.out x hx, List.take_of_length_le (by rw [Hm.out]; exact Nat.le_refl _)]
      go_wp2_with fail
      go_ret
      exact ⟨_, rfl, l', by first | exact HO.out.row | (rw [hN]; exact HO.out.row), HLk.out, by first | exact HB.out | (rw [hN]; exact HB.out)⟩
end Go.Proofs.Ytkkllmjomdbndaa
namespace Go.Proofs.Ytkkllmjomdbndaa
open Go.RowKit
set_option linter.unusedVariables false
set_option linter.unusedSimpArgs false

/-- The entries of the first k places. -/
structure Upto (n : Nat) (l o : List Ent) (k : Nat) : Prop where
  mem : ∀ x, x ∈ o ↔ (x ∈ l.take k ∧ x.count ≠ 0)
  zero : ∀ x ∈ l.take k, x.count = 0 → x = zeroEnt
  ok : ∀ x ∈ o, x.ok
  dst : Dst o
  cnt : o.length = cntT (l.take k)
  room : o.length < n ∨ o = []
theorem cntT_take_le (l : List Ent) (k : Nat) : cntT (l.take k) ≤ cntT l := by
  unfold cntT
  conv => rhs; rw [← List.take_append_drop k l, List.countP_append]
  omega
section
variable {n k : Nat} {l o o' : List Ent} {e : Ent}
theorem Upto.start (n : Nat) (l : List Ent) : Upto n l [] 0 := ⟨by simp, by simp, by simp, List.Pairwise.nil, by simp [cntT], .inr rfl⟩
theorem Upto.skip (h : Upto n l o k) (he : l[k]? = some e) (hz : e = zeroEnt) : Upto n l o (k + 1) := by
  have z0 : e.count = 0 := by rw [hz]; rfl
  refine ⟨fun x => ?_, fun x hx hc => ?_, h.ok, h.dst, by rw [cntT_take he, if_pos z0, h.cnt]; rfl, h.room⟩
  · rw [h.mem x, take_snoc he, List.mem_append, List.mem_singleton]
    constructor
    · exact fun h => ⟨.inl h.1, h.2⟩
    · rintro ⟨h1 | rfl, h2⟩
      · exact ⟨h1, h2⟩
      · exact absurd z0 h2
  · rw [take_snoc he] at hx
    rcases List.mem_append.1 hx with h1 | h1
    · exact h.zero x h1 hc
    · rw [List.mem_singleton.1 h1]; exact hz
theorem Upto.put (h : Upto n l o k) (he : l[k]? = some e) (hc : e.count ≠ 0) (hno : ∀ x ∈ o, x.adr ≠ e.adr) {code : Int} (hp : RPutP o n e code o') (h0 : code = 0) : Upto n l o' (k + 1) := by
  subst h0
  rcases hp with ⟨_, h1, _⟩ | ⟨_, ⟨f, hf, hfa⟩, _⟩ | ⟨_, _, _, h1, _⟩ | ⟨h1, h2, h3, _, rfl⟩
  · cases h1
  · exact absurd hfa (hno f hf)
  · cases h1
  · have hl : (putR o e).length = o.length + 1 := by rw [putR_len, cnt_no h2]
    refine ⟨fun x => ?_, fun x hx hc' => ?_, fun x hx => ?_, putR_dst e h.dst, by rw [hl, cntT_take he, if_neg hc, h.cnt], .inl (by omega)⟩
    · rw [putR_mem, take_snoc he, List.mem_append, List.mem_singleton]
      constructor
      · rintro (⟨a, _⟩ | rfl)
        · exact ⟨.inl ((h.mem x).1 a).1, ((h.mem x).1 a).2⟩
        · exact ⟨.inr rfl, hc⟩
      · rintro ⟨a | rfl, b⟩
        · have := (h.mem x).2 ⟨a, b⟩
          exact .inl ⟨this, hno x this⟩
        · exact .inr rfl
    · rw [take_snoc he] at hx
      rcases List.mem_append.1 hx with a | a
      · exact h.zero x a hc'
      · rw [List.mem_singleton.1 a] at hc'; exact absurd hc' hc
    · rcases (putR_mem o e x).1 hx with ⟨a, _⟩ | rfl
      · exact h.ok x a
      · exact h1
theorem Upto.bad (h : Upto n l o k) (hl : n = l.length) (he : l[k]? = some e) (hc : e.count ≠ 0) (hno : ∀ x ∈ o, x.adr ≠ e.adr) {code : Int} (hp : RPutP o n e code o') (h0 : code ≠ 0) : ¬ TabOK l := by
  rintro ⟨hn, _, ht, hok⟩
  have hroom := ht.room
  have h1 := cntT_take_le l (k + 1)
  rw [cntT_take he, if_neg hc, ← h.cnt] at h1
  rcases hp with ⟨h2, _⟩ | ⟨_, ⟨f, hf, hfa⟩, _⟩ | ⟨_, _, h2, _⟩ | ⟨_, _, _, h2, _⟩
  · exact h2 (hok e (List.mem_of_getElem? he) hc)
  · exact hno f hf hfa
  · omega
  · exact h0 h2
theorem Upto.twice (h : Upto n l o k) (he : l[k]? = some e) (hc : e.count ≠ 0) (hx : ∃ x ∈ o, x.adr = e.adr) : ¬ TabOK l := by
  rintro ⟨hn, _, ht, _⟩
  obtain ⟨x, hx, ha⟩ := hx
  obtain ⟨h1, h2⟩ := (h.mem x).1 hx
  exact ht.before he hc x h1 h2 ha
end
/-- What the reference's Entries answers. -/
def EntriesP (w' : World) (l : List Ent) (r : Ending) : Prop :=
  (∃ v o, r = .returned (.tuple #[v, .bool true]) ∧ RowE w' v o ∧ Upto l.length l o l.length) ∨ (¬ TabOK l ∧ r = .returned (.tuple #[.slice none 0 0, .bool false]))

set_option maxRecDepth 100000 in
set_option maxHeartbeats 8000000 in
theorem rentries_any (w : World) (B n c : Nat) (A : Option Addr) (l : List Ent) (h : LiesV w B A (ents l)) (hn : n = l.length) (hB : B ≤ w.heap.size) (hle : n ≤ 400) (hc : n ≤ c) :
    Calls Try.prog 20 #[.slice A n c] w fun r w' => EntriesP w' l r ∧ Below w.heap.size w w' := by
  have HL := Lib.hid h
  have Hn := Lib.hid hn
  clear h hn
  obtain ⟨N, hN⟩ : ∃ N, w.heap.size = N := ⟨_, rfl⟩
  rw [hN] at hB ⊢
  have HO0 : Hid (RowE w (.slice none 0 0) []) := RowE.nil w
  have HU0 := Lib.hid (Upto.start n l)
  have HB0 : Hid (Below N w w) := Below.refl _ _
  go_enter Try.func20, Try.ntmps20
  go_wp2_with fail
  go_loopw [4, 5] (fun v4 v W => ∃ (k : Nat) (o : List Ent), k ≤ n ∧ v = .int .i64 k ∧ Hid (RowE W v4 o) ∧ Hid (Upto n l o k) ∧ Hid (Below N w W) ∧ Hid (N ≤ W.heap.size)) (fun _ v _ => n - (intOf v).toNat)
  case atStart => exact ⟨0, [], Nat.zero_le _, rfl, HO0, HU0, HB0, by show _ ≤ _; omega⟩
  case round =>
    obtain ⟨k, o, hk, rfl, HO, HU, HB, HZ⟩ := hrel
    clear HO0 HU0 HB0
    by_cases hlt : k < n
    · have hlt' : (k : Int) < (n : Int) := by omega
      have hk0 : (0 : Int) ≤ (k : Int) := by omega
      obtain ⟨e, he⟩ : ∃ e, l[k]? = some e := ⟨_, List.getElem?_eq_getElem (by rw [← Hn.out]; exact hlt)⟩
      obtain ⟨b, p, hA, hb, hra⟩ := lies_ent (HL.out.below (HB.out.mono hB)) he
      subst hA
      have Hra := Lib.hid hra
      have Hrd := Lib.hid (adr_of hra)
      have Hse := Lib.hid (ent_size e)
      have HszE := Lib.hid (adr_size e.adr)
      have He := Lib.hid he
      have c1 := count_of hra
      have hz := HZ.out
      have hol : o.length ≤ k := by
        have h1 := HU.out.cnt
        have h2 := cntT_le (l.take k)
        rw [List.length_take] at h2
        omega
      have Hol := Lib.hid hol
      clear he hra hol
      by_cases hc : e.count = 0
      · rw [hc] at c1
        by_cases hez : e = zeroEnt
        · have E4 := Lib.hid (eq_ent wr e zeroEnt)
          rw [decide_eq_true hez] at E4
          have HU1 := Lib.hid (HU.out.skip He.out hez)
          clear hez
          go_wp2_with (first
            | ((with_reducible refine at_load 32 ?_); refine wpList_load_mid rfl 32 _ rfl b (p + k * 34) rfl e.cs _ Hra.out Try.underlying32 rfl Hse.out ?_)
            | ((with_reducible refine at_build 32 ?_); refine wpList_build_to rfl 32 _ rfl zeroEnt.cs Try.builtE0 ?_)
            | ((with_reducible refine at_neq 32 ?_); refine wpList_neqS rfl 32 _ _ 32 rfl (by kernel_rfl) (xs := e.cs.toArray) (ys := zeroEnt.cs.toArray) rfl rfl E4.out ?_))
          go_roundw
          case rel => exact ⟨k + 1, o, by omega, by go_num, HO, HU1, HB, HZ⟩
          case measure => simp [intOf]; omega
        · have E4 := Lib.hid (eq_ent wr e zeroEnt)
          rw [decide_eq_false hez] at E4
          have Hbad : Hid (¬ TabOK l) := by
            rintro ⟨_, _, ht, _⟩
            exact hez (ht.zero e (List.mem_of_getElem? He.out) hc)
          clear hez
          go_wp2_with (first
            | ((with_reducible refine at_load 32 ?_); refine wpList_load_mid rfl 32 _ rfl b (p + k * 34) rfl e.cs _ Hra.out Try.underlying32 rfl Hse.out ?_)
            | ((with_reducible refine at_build 32 ?_); refine wpList_build_to rfl 32 _ rfl zeroEnt.cs Try.builtE0 ?_)
            | ((with_reducible refine at_neq 32 ?_); refine wpList_neqS rfl 32 _ _ 32 rfl (by kernel_rfl) (xs := e.cs.toArray) (ys := zeroEnt.cs.toArray) rfl rfl E4.out ?_))
          go_ret2
          exact ⟨.inr ⟨Hbad.out, rfl⟩, HB.out⟩
      · have hd : (e.count == 0) = false := by rw [beq_eq_false_iff_ne]; exact hc
        have Hc := Lib.hid hc
        obtain ⟨A4, c4, hv4, hc4, hl4⟩ := HO.out
        subst hv4
        have HL4 := Lib.hid hl4
        have Hc4 := Lib.hid hc4
        clear hl4 hc4
        obtain ⟨m, hm⟩ : ∃ m, o.length = m := ⟨_, rfl⟩
        have Hm := Lib.hid hm
        rw [hm] at HO Hc4 Hol ⊢
        clear hm
        go_wp2_with ((with_reducible refine at_load 23 ?_); refine wpList_load_mid rfl 23 _ rfl b (p + k * 34) rfl (cells e.adr.1) _ Hrd.out Try.underlying23 rfl HszE.out ?_)
        have hm400 : m ≤ 1000 := by have := Hol.out; omega
        refine (rfind_any wr wr.heap.size m c4 A4 o e.adr HL4.out Hm.out.symm (Nat.le_refl _) hm400 Hc4.out).mono ?_
        rintro r w3 ⟨⟨kk, rfl, hf⟩, hb3⟩
        have HO3 : Hid (RowE w3 (.slice A4 m c4) o) := HO.out.later hb3
        have HB3 : Hid (Below N w w3) := HB.out.trans (hb3.mono hz)
        have hz3 : N ≤ w3.heap.size := by have := hb3.size; omega
        have hbz : b < wr.heap.size := by omega
        have Hra3 := Lib.hid (range_below Hra.out hb3 hbz)
        clear hb3 HO HB HZ Hra Hrd c1 HL4
        rcases hf with ⟨kx, f, rfl, hkx, hfa⟩ | ⟨rfl, hno⟩
        · have Hbad := Lib.hid (HU.out.twice He.out hc ⟨f, List.mem_of_getElem? hkx, hfa⟩)
          have hdk : decide ((kx : Int) ≥ 0) = true := decide_eq_true (by omega)
          have hdk' : (0 : Int) ≤ (kx : Int) := by omega
          clear hkx hfa
          go_wp2_with fail
          go_ret2
          exact ⟨.inr ⟨Hbad.out, rfl⟩, HB3.out⟩
        · have Hno := Lib.hid hno
          clear hno
          go_wp2_with ((with_reducible refine at_load 32 ?_); refine wpList_load_mid rfl 32 _ rfl b (p + k * 34) rfl e.cs _ Hra3.out Try.underlying32 rfl Hse.out ?_)
          have hol9 : o.length ≤ 900 := by rw [Hm.out]; have := Hol.out; omega
          refine (rput_any w3 (.slice A4 m c4) o n e HO3.out HU.out.dst hol9 (by omega)).mono ?_
          rintro r w4 ⟨code, o', v', rfl, hO4, -, hp, hb4⟩
          have HO4 := Lib.hid hO4
          have HB4 : Hid (Below N w w4) := HB3.out.trans (hb4.mono hz3)
          have hz4 : N ≤ w4.heap.size := by have := hb4.size; omega
          clear hO4 hb4 HB3 HO3 Hra3
          by_cases hcode : code = 0
          · have HU1 := Lib.hid (HU.out.put He.out Hc.out Hno.out hp hcode)
            have hdc : (code == 0) = true := by rw [beq_iff_eq]; exact hcode
            clear hp
            go_wp2_with fail
            go_roundw
            case rel => exact ⟨k + 1, o', by omega, by go_num, HO4, HU1, HB4, hz4⟩
            case measure => simp [intOf]; omega
          · have Hbad := Lib.hid (HU.out.bad Hn.out He.out Hc.out Hno.out hp hcode)
            have hdc : (code == 0) = false := by rw [beq_eq_false_iff_ne]; exact hcode
            clear hp
            go_wp2_with fail
            go_ret2
            exact ⟨.inr ⟨Hbad.out, rfl⟩, HB4.out⟩
    · obtain rfl : k = n := by omega
      have HU1 : Hid (Upto l.length l o l.length) := by have := HU.out; rw [Hn.out] at this; exact this
      go_wp2_with fail
      go_ret2
      exact ⟨.inl ⟨_, o, rfl, HO.out, HU1.out⟩, HB.out⟩
end Go.Proofs.Ytkkllmjomdbndaa
namespace Go.Proofs.Ytkkllmjomdbndaa
open Go.RowKit
set_option linter.unusedVariables false
set_option linter.unusedSimpArgs false

/-- The greatest distance among the first places. -/
def longT (n : Nat) (hn : 0 < n) (l : List Ent) : Nat → Nat
  | 0 => 0
  | k + 1 => match l[k]? with
    | some e => if e.count = 0 then longT n hn l k else max (longT n hn l k) ((ruleT n hn).far e.adr k)
    | none => longT n hn l k
theorem longT_lt {n : Nat} {hn : 0 < n} {l : List Ent} : ∀ k, k ≤ n → longT n hn l k < n
  | 0, _ => hn
  | k + 1, h => by
    have ih := longT_lt (n := n) (hn := hn) (l := l) k (by omega)
    unfold longT
    split
    · split
      · exact ih
      · rename_i e _ _
        have : (ruleT n hn).far e.adr k < n := farF_lt ((ruleT n hn).home_lt _) (show k < n by omega)
        exact Nat.max_lt.2 ⟨ih, this⟩
    · exact ih

set_option maxRecDepth 100000 in
set_option maxHeartbeats 4000000 in
theorem tlongest_any (w : World) (b g c n : Nat) (hn : 0 < n) (l : List Ent) (h : TabAt w b g c n l) :
    Calls Try.prog 23 #[.pointer (some ⟨b, 0, none⟩)] w fun r w' => r = .returned (.int .i64 ((longT n hn l n : Nat) : Int)) ∧ Below w.heap.size w w' := by
  have hle := h.le
  have hcap := h.cap
  have hbl := h.blt
  have hgl := h.glt
  have Hh := Lib.hid h
  have c0 := h.ptr.cell
  clear h
  obtain ⟨N, hN⟩ : ∃ N, w.heap.size = N := ⟨_, rfl⟩
  rw [hN] at hbl hgl
  go_enter Try.func23, Try.ntmps23
  go_wp2_with fail
  go_loopw [3, 11] (fun s v W => ∃ k m : Nat, k ≤ n ∧ m < n ∧ v = .int .i64 k ∧ s = .int .i64 m ∧ Hid (longT n hn l k = m) ∧ Hid (Below N w W) ∧ Hid (N ≤ W.heap.size)) (fun _ v _ => n - (intOf v).toNat)
  case atStart => exact ⟨0, 0, Nat.zero_le _, hn, rfl, rfl, rfl, by show Below _ _ _; exact Below.refl _ _, by show _ ≤ _; omega⟩
  case round =>
    obtain ⟨k, m, hk, hm, rfl, rfl, HK, HB, HS⟩ := hrel
    clear c0
    by_cases hlt : k < n
    · have hlt' : (k : Int) < (n : Int) := by omega
      have hk0 : (0 : Int) ≤ (k : Int) := by omega
      have HT : Hid (TabAt wr b g c n l) := Hh.out.below HB.out hbl hgl
      obtain ⟨f, hf⟩ := HT.out.get hlt
      have qF : Hid (wr.rangeAt g (k * 34) f.cs) := ent_range HT.out.row hf
      have Hsf := Lib.hid (ent_size f)
      have Hf := Lib.hid hf
      have HLn : Hid (longT n hn l (k + 1) = if f.count = 0 then m else max m ((ruleT n hn).far f.adr k)) := by
        show _ = _
        rw [← HK.out]
        conv => lhs; unfold longT
        rw [hf]
      obtain ⟨M, hM⟩ : ∃ M, wr.heap.size = M := ⟨_, rfl⟩
      have hNM : N ≤ M := by have := HS.out; omega
      clear hf
      go_wp2_with (first
        | ((with_reducible refine at_load 32 ?_); refine wpList_load_mid rfl 32 _ rfl g (k * 34) rfl f.cs _ qF.out Try.underlying32 rfl Hsf.out ?_)
        | ((with_reducible refine at_alloc 32 ?_); refine wpList_alloc_rowV rfl 32 rfl zeroEnt.cs Try.zeroEnt11 ?_; intro w3 hr3 hb3 hs3; rw [hM] at hr3 hb3 ⊢)
        | ((with_reducible refine at_store 32 ?_); refine wpList_store_rowV rfl 32 _ _ rfl M f.cs rfl rfl 32 zeroEnt.cs hr3 (by rw [List.size_toArray]; exact ent_size _) (by rw [List.size_toArray, List.size_toArray, Ent.cs_length, Ent.cs_length]) (all_oneCell_toArray (Ent.one _)) ?_; intro w4 hr4 hg4 hs4))
      have hb4 : Below M wr w4 := below_grown hb3 hg4 (Nat.le_refl _) (by have := hb3.size; omega)
      have HT4 : Hid (TabAt w4 b g c n l) := HT.out.below hb4 (by omega) (by omega)
      have HB4 : Hid (Below N w w4) := HB.out.trans (hb4.mono hNM)
      have q4 := Lib.hid (adr_of (row_range hr4))
      have HszA := Lib.hid (adr_size f.adr)
      have hN4 : N ≤ w4.heap.size := by have := hb4.size; omega
      clear HT HB hr3 hb3 hs3 hg4 hs4 hb4 qF hr4
      refine (tempty_any w4 b g c n l HT4.out k f Hf.out).mono ?_
      rintro r w5 ⟨rfl, hw⟩
      rw [hw]
      clear hw w5
      by_cases hc : f.count = 0
      · rw [decide_eq_true hc]
        rw [if_pos hc] at HLn
        clear q4
        go_wp2_with fail
        go_roundw
        case rel => exact ⟨k + 1, m, by omega, hm, by go_num, by go_num, HLn, HB4, hN4⟩
        case measure => simp [intOf]; omega
      · rw [decide_eq_false hc]
        rw [if_neg hc] at HLn
        go_wp2_with ((with_reducible refine at_load 23 ?_); refine wpList_load_mid rfl 23 _ rfl M 0 rfl (cells f.adr.1) _ q4.out Try.underlying23 rfl HszA.out ?_)
        refine (tdist_any w4 b g c n hn l HT4.out f.adr k hlt).mono ?_
        rintro r w5 ⟨rfl, hb5⟩
        have hfar : (ruleT n hn).far f.adr k < n := farF_lt ((ruleT n hn).home_lt _) hlt
        generalize (ruleT n hn).far f.adr k = d at *
        have HB5 : Hid (Below N w w5) := HB4.out.trans (hb5.mono hN4)
        have hN5 : N ≤ w5.heap.size := by have := hb5.size; omega
        clear hb5 q4 HB4
        go_wp2_with fail
        go_roundw
        case rel => exact ⟨k + 1, max m d, by omega, Nat.max_lt.2 ⟨hm, hfar⟩, by go_num, by go_num, HLn, HB5, hN5⟩
        case measure => simp [intOf]; omega
    · obtain rfl : k = n := by omega
      go_wp2_with fail
      go_ret
      exact ⟨by rw [HK.out]; rfl, by rw [hN]; exact HB.out⟩
end Go.Proofs.Ytkkllmjomdbndaa
namespace Go.Proofs.Ytkkllmjomdbndaa
open Go.RowKit
set_option linter.unusedVariables false
set_option linter.unusedSimpArgs false

/-- A table of n places, by looking. -/
def tabC (n : Nat) (hn : 0 < n) (l : List Ent) : Bool :=
  decide (l.length = n) && l.all (fun e => decide (e.count = 0 → e = zeroEnt)) && decide (cntT l < n) &&
  (List.range n).all (fun p => match layT l p with
    | none => true
    | some e => (List.range n).all fun q => match layT l q with
      | none => !decide ((ruleT n hn).far e.adr q < (ruleT n hn).far e.adr p)
      | some f => (!decide ((ruleT n hn).far e.adr q < (ruleT n hn).far e.adr p) || (decide (f.adr ≠ e.adr) && goesB n hn f.adr e.adr q)) && (decide (p = q) || decide (e.adr ≠ f.adr)))
theorem tabC_tb {n : Nat} {hn : 0 < n} {l : List Ent} (h : tabC n hn l = true) : Tb n hn l := by
  unfold tabC at h
  simp only [Bool.and_eq_true, decide_eq_true_eq, List.all_eq_true] at h
  obtain ⟨⟨⟨h1, h2⟩, h3⟩, h4⟩ := h
  refine ⟨h1, fun e he hc => h2 e he hc, ⟨?_, ?_⟩, h3⟩
  · intro p e hp he q hq hlt
    have a := h4 p (List.mem_range.2 hp)
    rw [he] at a
    simp only [List.all_eq_true] at a
    have b := a q (List.mem_range.2 hq)
    cases hf : layT l q with
    | none =>
      rw [hf] at b
      simp only [Bool.not_eq_true', decide_eq_false_iff_not] at b
      exact absurd hlt b
    | some f =>
      rw [hf] at b
      simp only [Bool.and_eq_true, Bool.or_eq_true, Bool.not_eq_true', decide_eq_false_iff_not, decide_eq_true_eq] at b
      rcases b.1 with c | ⟨c, d⟩
      · exact absurd hlt c
      · exact .inr ⟨f, rfl, c, goesB_iff.1 d⟩
  · intro p q e f hp hq he hf hk
    have a := h4 p (List.mem_range.2 hp)
    rw [he] at a
    simp only [List.all_eq_true] at a
    have b := a q (List.mem_range.2 hq)
    rw [hf] at b
    simp only [Bool.and_eq_true, Bool.or_eq_true, decide_eq_true_eq] at b
    rcases b.2 with c | c
    · exact c
    · exact absurd hk c

/-- The law's addresses. -/
def adrB (h n : UInt8) : Adr := ⟨[0, 0, 0, 0, 0, h, n] ++ List.replicate 25 0, by simp⟩
def exE1 : Ent := ⟨adrB 5 2, 1, 1⟩
def exE2 : Ent := ⟨adrB 5 1, 2, 3⟩
def exE3 : Ent := ⟨adrB 6 0, 3, 1⟩
def exL3 : List Ent := [exE3, zeroEnt, zeroEnt, zeroEnt, zeroEnt, exE2, exE1]
def exL4 : List Ent := [zeroEnt, zeroEnt, zeroEnt, zeroEnt, zeroEnt, exE1, exE3]
theorem exT3 : Tb 7 (by decide) exL3 := tabC_tb (by kernel_rfl)
theorem exT4 : Tb 7 (by decide) exL4 := tabC_tb (by kernel_rfl)
theorem exLong : longT 7 (by decide) exL3 7 = 1 := by kernel_rfl
theorem built_adr (h n : UInt8) : Try.prog.built 23 [(0, .int .u8 0), (1, .int .u8 0), (2, .int .u8 0), (3, .int .u8 0), (4, .int .u8 0), (5, .int .u8 (h.toNat : Int)), (6, .int .u8 (n.toNat : Int))] = some (cells (adrB h n).1).toArray := by kernel_rfl
theorem built_ent (a : Adr) (s c : Int) : Try.prog.built 32 [(0, .agg (cells a.1).toArray), (1, .int .i64 s), (2, .int .i64 c)] = some (Ent.cs ⟨a, s, c⟩).toArray := by
  obtain ⟨it, hi, hz'⟩ := Option.bind_eq_some_iff.1 Try.zeroEnt11
  unfold Program.built
  have hp : (Try.prog.fieldsOf 32).toList.mapM (fun f => (Try.prog.info? f.type).map fun i => (f.offset, i.size)) = some [(0, 32), (32, 1), (33, 1)] := by kernel_rfl
  simp only [Program.fieldsOf, Try.underlying32] at hp
  simp only [hi, Try.underlying32, hz', hp]
  have e : (Value.agg zeroEnt.cs.toArray).cells = zeroEnt.cs.toArray := rfl
  have l0 : (cells a.1).length = 32 := by rw [cells_length, a.2]
  rw [e, fill_part _ _ 0 (.agg (cells a.1).toArray) (cells a.1) _ 0 32 rfl rfl l0 (by rw [Ent.cs_length]; omega),
    fill_part _ _ 1 (.int .i64 s) [.int .i64 s] _ 32 1 rfl rfl rfl (by rw [putL_length, Ent.cs_length]; omega),
    fill_part _ _ 2 (.int .i64 c) [.int .i64 c] _ 33 1 rfl rfl rfl (by rw [putL_length, putL_length, Ent.cs_length]; omega)]
  have hz : zeroEnt.cs = cells zeroAdr.1 ++ ([.int .i64 0, .int .i64 0] : List Value) := rfl
  have h1 := putL_mid (cells a.1) [] (cells zeroAdr.1) [.int .i64 0, .int .i64 0] (by rw [cells_length, cells_length, a.2, zeroAdr.2])
  simp only [List.nil_append, List.length_nil] at h1
  have h2 := putL_mid [.int .i64 s] (cells a.1) [.int .i64 0] [.int .i64 0] rfl
  rw [l0] at h2
  have h3 := putL_mid [.int .i64 c] (cells a.1 ++ [.int .i64 s]) [.int .i64 0] [] rfl
  rw [List.length_append, l0] at h3
  simp only [List.append_assoc, List.cons_append, List.nil_append, List.append_nil, List.length_cons, List.length_nil] at h2 h3
  show some (putL (putL (putL zeroEnt.cs 0 (cells a.1)) 32 [.int .i64 s]) 33 [.int .i64 c]).toArray = _
  rw [hz, h1, h2, h3]
  rfl

set_option maxRecDepth 100000 in
set_option maxHeartbeats 1000000 in
theorem lat_any (w : World) (h n : UInt8) : Calls Try.prog 25 #[.int .u8 (h.toNat : Int), .int .u8 (n.toNat : Int)] w fun e w' => e = .returned (adrB h n).val ∧ Below w.heap.size w w' := by
  go_enter Try.func25, Try.ntmps25
  go_wp2_with (first
    | ((with_reducible refine at_alloc 23 ?_); refine wpList_alloc_rowV rfl 23 rfl (cells zeroAdr.1) Try.zeroA32 ?_; intro w2 hr2 hb2 hs2)
    | ((with_reducible refine at_build 23 ?_); refine wpList_build_to rfl 23 _ rfl (cells (adrB h n).1) (built_adr h n) ?_)
    | ((with_reducible refine at_store 23 ?_); refine wpList_store_rowV rfl 23 _ _ rfl w.heap.size (cells (adrB h n).1) rfl rfl 23 (cells zeroAdr.1) hr2 (by rw [List.size_toArray]; exact adr_size _) (by rw [List.size_toArray, List.size_toArray, cells_length, cells_length, (adrB h n).2, zeroAdr.2]) (all_oneCell_toArray (cells_one _)) ?_; intro w3 hr3 hg3 hs3))
  refine bodyPost_ret (results_cell_row (fn := Try.f25) rfl _ _ w.heap.size 23 _ (0, 0) _ rfl hr3 Try.underlying23 rfl (by rw [List.size_toArray]; exact adr_size _)) rfl ⟨rfl, below_grown hb2 hg3 (Nat.le_refl _) hb2.size⟩
set_option maxRecDepth 100000 in
theorem lsize_any (w : World) (n : UInt8) : Calls Try.prog 9 #[.int .u8 (n.toNat : Int)] w fun e w' => e = .returned (.int .i64 ((1 + n.toNat % 24 : Nat) : Int)) ∧ w' = w := by
  have hn := n.toNat_lt
  go_enter Try.func9, Try.ntmps9
  go_wp2_with fail
  go_ret
  exact ⟨by show Ending.returned (Value.int IntKind.i64 (1 + (n.toNat : Int) % 24)) = _; rw [show (1 : Int) + (n.toNat : Int) % 24 = ((1 + n.toNat % 24 : Nat) : Int) by omega], rfl⟩
end Go.Proofs.Ytkkllmjomdbndaa
