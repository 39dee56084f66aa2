/-
  Layer 12: the contract of the reference's Read.
-/
import Derived.Test.YtiglffkbaddefaaPkShlJ
import Derived.Test.YtiglffkbaddefaaPkShlI
import Derived.Test.YtiglffkbaddefaaPkTabLk
namespace Go.Proofs.Ytiglffkbaddefaa
open Go.RowKit Go.Shelf
set_option linter.unusedVariables false
set_option linter.unusedSimpArgs false

theorem rone_at (w : World) (x : Sec) (k : Nat) (hk : k < 6) :
    Calls Try.prog 39 #[.agg x.cs.toArray, .int .i64 (42 * (k : Int))] w fun e w' => e = .returned (.agg (entAt x.1 (k * 42)).cs.toArray) ∧ Below w.heap.size w w' := by
  have h := rone_any w x (k * 42) (by omega)
  rw [show ((k * 42 : Nat) : Int) = 42 * (k : Int) by omega] at h
  exact h
theorem unSix_take {x : List UInt8} {k : Nat} (hk : k < 6) : (unSix x).take (k + 1) = (unSix x).take k ++ [entAt x (k * 42)] := by
  rw [List.take_add_one, unSix_get hk]
  rfl
/-- What the reference's Read answers. -/
def RdP (w' : World) (l : List Sec) (e : Ending) : Prop :=
  (∃ A c ok, e = .returned (.tuple #[.slice A (l.length * 6) c, .bool ok]) ∧ l.length * 6 ≤ c ∧ LiesV w' w'.heap.size A (ents (readS l)) ∧ (ok = true ↔ ShOK l)) ∨ (¬ ShOK l ∧ e = .returned (.tuple #[.slice none 0 0, .bool false]))

set_option maxRecDepth 100000 in
set_option maxHeartbeats 8000000 in
theorem rread_any (w : World) (B n c : Nat) (A : Option Addr) (l : List Sec) (h : LiesV w B A (secs l)) (hn : n = l.length) (hB : B ≤ w.heap.size) (hc : n ≤ c) (hle : n ≤ 60) (h1 : 1 ≤ n) :
    Calls Try.prog 19 #[.slice A n c] w fun e w' => RdP w' l e ∧ Below w.heap.size w w' := by
  have HL := Lib.hid h
  have Hn := Lib.hid hn
  clear h hn
  obtain ⟨N, hN⟩ : ∃ N, w.heap.size = N := ⟨_, rfl⟩
  have HB0 : Hid (Below N w w) := Below.refl _ _
  have HO0 : Hid (w.ownsRow N 32 34 (.slice none 0 0) (0 * 6) (ents (readS (l.take 0)))) := World.ownsRow_nil _ _ _ _
  have hNs : N ≤ w.heap.size := by omega
  rw [hN] at hB
  go_enter Try.func19, Try.ntmps19
  go_wp2_with fail
  go_loopw [4, 5] (fun v4 v W => ∃ i : Nat, i ≤ n ∧ v = .int .i64 i ∧ Hid (W.ownsRow N 32 34 v4 (i * 6) (ents (readS (l.take i)))) ∧ Hid (Below N w W) ∧ Hid (N ≤ W.heap.size)) (fun _ v _ => n - (intOf v).toNat)
  case atStart => exact ⟨0, Nat.zero_le _, rfl, HO0, HB0, hNs⟩
  case round =>
    obtain ⟨i, hi, rfl, HO, HB, HZ⟩ := hrel
    clear HO0 HB0 hNs
    generalize wr = wo at *
    by_cases hlt : i < n
    · have hlt' : (i : Int) < (n : Int) := by omega
      have hi0 : (0 : Int) ≤ (i : Int) := by omega
      obtain ⟨s, hs⟩ : ∃ s, l[i]? = some s := ⟨_, List.getElem?_eq_getElem (by rw [← Hn.out]; exact hlt)⟩
      have Hsn := Lib.hid (readS_snoc hs)
      have Hs := Lib.hid hs
      have Hse := Lib.hid (sec_size s)
      have HO1 : Hid (wo.ownsRow N 32 34 u4 (i * 6 + 0) (ents (readS (l.take i) ++ (unSix s.1).take 0))) := by show World.ownsRow _ _ _ _ _ _ _; rw [List.take_zero, List.append_nil]; exact HO.out
      clear HO hs
      go_wp2_with fail
      go_loopw [4, 6] (fun v4 v W => ∃ k : Nat, k ≤ 6 ∧ v = .int .i64 k ∧ Hid (W.ownsRow N 32 34 v4 (i * 6 + k) (ents (readS (l.take i) ++ (unSix s.1).take k))) ∧ Hid (Below N w W) ∧ Hid (N ≤ W.heap.size)) (fun _ v _ => 6 - (intOf v).toNat)
      case atStart => exact ⟨0, Nat.zero_le _, rfl, HO1, HB, HZ⟩
      case round =>
        obtain ⟨k, hk, rfl, HO2, HB2, HZ2⟩ := hrel
        clear HO1 HB HZ
        by_cases hk6 : k < 6
        · have hk6' : (k : Int) < 6 := by omega
          have hk0 : (0 : Int) ≤ (k : Int) := by omega
          obtain ⟨b, o, hA, hb, hra⟩ := lies_sec (HL.out.below (HB2.out.mono hB)) Hs.out
          subst hA
          have Hra := Lib.hid hra
          have Hut := Lib.hid (unSix_take (x := s.1) hk6)
          have hz2 := HZ2.out
          clear hra
          go_wp2_with ((with_reducible refine at_load 43 ?_); refine wpList_load_mid rfl 43 _ rfl b (o + i * 256) rfl s.cs _ Hra.out Try.underlying43 rfl Hse.out ?_)
          refine (rone_at wr s k hk6).mono ?_
          rintro e w3 ⟨rfl, hb3⟩
          have HO3 := Lib.hid (own_below HO2.out hb3)
          have HB3 : Hid (Below N w w3) := HB2.out.trans (hb3.mono hz2)
          have hz3 : N ≤ w3.heap.size := by have := hb3.size; omega
          obtain ⟨en, hen⟩ : ∃ en, entAt s.1 (k * 42) = en := ⟨_, rfl⟩
          rw [hen] at Hut ⊢
          clear HO2 HB2 HZ2 hb3 hen hz2
          go_wp2_with (first
            | ((with_reducible refine at_buildSlice 22 ?_); refine wpList_buildSlice_oneV rfl 22 32 _ rfl en.cs rfl Try.underlying22 Try.infoE (Ent.cs_length _) (by decide) (by decide) ?_; intro w4 hr4 hb4 hs4; have HO4 := Lib.hid (own_below HO3.out hb4); have HB4 : Hid (Below N w w4) := HB3.out.trans (hb4.mono hz3); have hz4 : N ≤ w4.heap.size := (by have := hb4.size; omega); clear HO3 HB3 hb4)
            | (at_builtin; refine wpList_append_one rfl _ _ 22 rfl N 32 Try.underlying22 Try.infoE rfl (by decide) _ (i * 6 + k) _ rfl HO4.out w3.heap.size en.cs rfl hr4 (Ent.cs_length _) (Ent.one _) (by unfold maxLen; omega) (by omega) hz4 ?_; intro v5 w5 ho5 hg5 _; rw [← ents_snoc, List.append_assoc, ← Hut.out] at ho5; have HO5 := Lib.hid ho5; have HB5 : Hid (Below N w w5) := HB4.out.grown hg5 hz4 (fun j e => own_ge HO4.out j e); have HZ5 : Hid (N ≤ w5.heap.size) := (by show _ ≤ _; have := hg5.size; omega); clear HO4 HB4 ho5 hg5 hr4 hs4))
          go_roundw
          case rel => exact ⟨k + 1, by omega, by go_num, HO5, HB5, HZ5⟩
          case measure => simp [intOf]; omega
        · obtain rfl : k = 6 := by omega
          have HO3 : Hid (wr.ownsRow N 32 34 u4 ((i + 1) * 6) (ents (readS (l.take (i + 1))))) := by
            show World.ownsRow _ _ _ _ _ _ _
            have := HO2.out
            rw [List.take_of_length_le (l := unSix s.1) (by rw [unSix_length]; exact Nat.le_refl _), ← Hsn.out, show i * 6 + 6 = (i + 1) * 6 by omega] at this
            exact this
          clear HO2
          go_wp2_with fail
          go_roundw
          case rel => exact ⟨i + 1, by omega, by go_num, HO3, HB2, HZ2⟩
          case measure => simp [intOf]; omega
    · obtain rfl : i = n := by omega
      have ho := HO.out
      rw [List.take_of_length_le (by rw [← Hn.out]; exact Nat.le_refl _)] at ho
      obtain ⟨A4, c4, rfl, hlen4, hcap4, hmax4, hl4⟩ := lies_ownE ho
      have HL4 := Lib.hid hl4
      have Hlen4 := Lib.hid hlen4
      have hzo := HZ.out
      clear ho hl4 hlen4 HO
      go_wp2_with fail
      refine (rsectors_any wo wo.heap.size (i * 6) c4 i A4 (readS l) HL4.out Hlen4.out rfl (Nat.le_refl _) (readS_fits l) (by omega) hcap4).mono ?_
      rintro e w5 ⟨v5, rfl, ho5, hb5⟩
      obtain ⟨A5, c5, rfl, hlen5, hcap5, hmax5, hl5⟩ := lies_ownS ho5
      have HL5 := Lib.hid hl5
      have Hlen5 := Lib.hid hlen5
      have HE5 : Hid (LiesV w5 wo.heap.size A4 (ents (readS l))) := HL4.out.below hb5
      have HB5 : Hid (Below N w w5) := HB.out.trans (hb5.mono hzo)
      have hz5 : wo.heap.size ≤ w5.heap.size := hb5.size
      have HK0 : Hid ((shelfL (readS l) i).take 0 = l.take 0) := by show _ = _; rw [List.take_zero, List.take_zero]
      have HR0 : Hid (Below w5.heap.size w5 w5) := Below.refl _ _
      clear ho5 hl5 hlen5 hb5 HB HL4
      go_wp2_with fail
      go_loopw [8] (fun v W => ∃ k : Nat, k ≤ i ∧ v = .int .i64 k ∧ Hid ((shelfL (readS l) i).take k = l.take k) ∧ Hid (Below w5.heap.size w5 W)) (fun v _ => i - (intOf v).toNat)
      case atStart => exact ⟨0, Nat.zero_le _, rfl, HK0, HR0⟩
      case round =>
        obtain ⟨k, hk, rfl, HK, HR⟩ := hrel
        clear HK0 HR0
        by_cases hki : k < i
        · have hki' : (k : Int) < (i : Int) := by omega
          have hk0 : (0 : Int) ≤ (k : Int) := by omega
          obtain ⟨e, he⟩ : ∃ e, (shelfL (readS l) i)[k]? = some e := ⟨_, List.getElem?_eq_getElem (by rw [← Hlen5.out]; exact hki)⟩
          obtain ⟨f, hf⟩ : ∃ f, l[k]? = some f := ⟨_, List.getElem?_eq_getElem (by rw [← Hn.out]; exact hki)⟩
          obtain ⟨b1, o1, hA1, hb1, hr1⟩ := lies_sec (HL5.out.below HR.out) he
          obtain ⟨b2, o2, hA2, hb2, hr2⟩ := lies_sec ((HL.out.below (HB5.out.mono hB)).below (HR.out.mono (by omega))) hf
          subst hA1 hA2
          have r1 : Hid (wr.drew.rangeAt b1 (o1 + k * 256) e.cs) := hr1
          have r2 : Hid (wr.drew.rangeAt b2 (o2 + k * 256) f.cs) := hr2
          have S1 := Lib.hid (sec_size e)
          have S2 := Lib.hid (sec_size f)
          have He := Lib.hid he
          have Hf := Lib.hid hf
          have E1 : Hid ((e.1 == f.1) = decide (e = f)) := by
            show _ = _
            rw [Bool.eq_iff_iff]
            simp only [beq_iff_eq, decide_eq_true_eq]
            exact ⟨fun h => Subtype.ext h, fun h => by rw [h]⟩
          clear hr1 hr2 he hf
          go_wp2_with fail
          refine wp_region_still_lit (by kernel_rfl) (by kernel_rfl) ?_
          iterate 3 still_step
          refine wpStill_exec (.agg e.cs.toArray) rfl (by refine exec_load_mid 43 (.tmp 41) ?_ b1 (o1 + k * 256) ?_ e.cs _ r1.out Try.underlying43 rfl S1.out <;> rfl) ?_
          try simp only [Act.put, List.setIfInBounds_toArray, List.set_cons_zero, List.set_cons_succ]
          iterate 3 still_step
          refine wpStill_exec (.agg f.cs.toArray) rfl (by refine exec_load_mid 43 (.tmp 45) ?_ b2 (o2 + k * 256) ?_ f.cs _ r2.out Try.underlying43 rfl S2.out <;> rfl) ?_
          try simp only [Act.put, List.setIfInBounds_toArray, List.set_cons_zero, List.set_cons_succ]
          refine wpStill_exec (.bool (!(e.1 == f.1))) rfl (by refine exec_neqB 43 (.tmp 42) (.tmp 46) 43 ?_ Try.underlying43 Try.underlying5 Try.cells5' Try.guardS (xs := e.1) (ys := f.1) ?_ ?_ e.2 f.2 <;> rfl) ?_
          try simp only [Act.put, List.setIfInBounds_toArray, List.set_cons_zero, List.set_cons_succ]
          refine wpStill_nil ?_
          change Exit.then _ _ _ _ wr.drew
          rw [E1.out]
          have HRd : Hid (Below w5.heap.size w5 wr.drew) := HR.out.drew
          generalize wr.drew = wd at *
          by_cases hef : e = f
          · rw [decide_eq_true hef]
            have HK1 : Hid ((shelfL (readS l) i).take (k + 1) = l.take (k + 1)) := by
              show _ = _
              obtain ⟨a1, a2⟩ := List.getElem?_eq_some_iff.1 He.out
              obtain ⟨b1, b2⟩ := List.getElem?_eq_some_iff.1 Hf.out
              rw [List.take_succ_eq_append_getElem a1, List.take_succ_eq_append_getElem b1, HK.out, a2, b2, hef]
            clear HR
            go_wp2_with fail
            go_roundw
            case rel => exact ⟨k + 1, by omega, by go_num, HK1, HRd⟩
            case measure => simp [intOf]; omega
          · rw [decide_eq_false hef]
            have Hno : Hid (¬ ShOK l) := by
              rintro ⟨_, h0⟩
              rw [← Hn.out] at h0
              have h1 := He.out
              rw [h0, Hf.out] at h1
              exact hef (Option.some.inj h1).symm
            clear HR
            go_wp2_with fail
            go_ret2
            exact ⟨.inr ⟨Hno.out, rfl⟩, by rw [hN]; exact HB5.out.trans (HRd.out.mono (by omega))⟩
        · obtain rfl : k = i := by omega
          have Hsh : Hid (shelfL (readS l) k = l) := by
            show _ = _
            have := HK.out
            rw [List.take_of_length_le (by rw [← Hlen5.out]; exact Nat.le_refl _), List.take_of_length_le (by rw [← Hn.out]; exact Nat.le_refl _)] at this
            exact this
          have hzr : w5.heap.size ≤ wr.heap.size := HR.out.size
          have HEr : Hid (LiesV wr wr.heap.size A4 (ents (readS l))) := (HE5.out.below (HR.out.mono hz5)).le (by omega)
          have HBr : Hid (Below N w wr) := HB5.out.trans (HR.out.mono (by omega))
          have Hlenl : Hid (l.length * 6 = k * 6) := by show _ = _; rw [← Hn.out]
          clear HK HR HE5 HB5 HL5
          go_wp2_with fail
          refine (rentries_any wr wr.heap.size (k * 6) c4 A4 (readS l) HEr.out Hlen4.out (Nat.le_refl _) (by omega) hcap4).mono ?_
          rintro e w6 ⟨hen, hb6⟩
          have HE6 : Hid (LiesV w6 w6.heap.size A4 (ents (readS l))) := (HEr.out.below hb6).le hb6.size
          have HB6 : Hid (Below N w w6) := HBr.out.trans (hb6.mono (by omega))
          have hz6 : N ≤ w6.heap.size := by have := hb6.size; omega
          clear HEr HBr hb6
          rcases hen with ⟨v6, ol, rfl, hR6, hU⟩ | ⟨hno, rfl⟩
          · have HR6 := Lib.hid hR6
            have HU := Lib.hid hU
            have hk0 : 0 < k * 6 := by omega
            have hlen : ol.length < k * 6 := by
              rcases HU.out.room with h1 | h1
              · rw [Hlen4.out]; exact h1
              · rw [h1]; exact hk0
            have Hlen := Lib.hid hlen
            obtain ⟨A6, c6, hv6, -, -⟩ := HR6.out
            subst hv6
            clear hR6 hU hlen
            go_wp2_with fail
            have hpl := rplaces_any w6 _ ol (k * 6) hk0 (by omega) HR6.out HU.out.ok HU.out.dst Hlen.out
            rw [show ((k * 6 : Nat) : Int) = (k : Int) * 6 by omega] at hpl
            refine hpl.mono ?_
            rintro e w7 ⟨v7, rfl, l7, hr7, hK7, hb7⟩
            have HQ7 := Lib.hid hr7
            have HE7 : Hid (LiesV w7 w7.heap.size A4 (ents (readS l))) := (HE6.out.below hb7).le hb7.size
            have HB7 : Hid (Below N w w7) := HB6.out.trans (hb7.mono hz6)
            have hz7 : N ≤ w7.heap.size := by have := hb7.size; omega
            have Hlen7 : Hid (k * 6 = l7.length) := hK7.tb.len.symm
            have Hok : Hid (l7 = readS l ↔ ShOK l) := by
              constructor
              · intro he
                refine ⟨?_, by rw [← Hn.out]; exact Hsh.out⟩
                have h406 : (readS l).length ≤ 406 := by rw [← Hlen4.out]; omega
                have hlk : k * 6 = (readS l).length := Hlen4.out
                have hK : Like (readS l).length (by omega) l7 ol := hK7.cast hlk _
                exact Like.tabOK HU.out hK he h406
              · rintro ⟨⟨hn0, _, htb, _⟩, _⟩
                have hlk : k * 6 = (readS l).length := Hlen4.out
                have hK : Like (readS l).length hn0 l7 ol := hK7.cast hlk _
                exact hK.same (HU.out.like htb)
            clear hr7 hK7 hb7 hpl HR6
            obtain ⟨A7, c7, hv7, -, hcap7, -, hl7⟩ := lies_ownE HQ7.out
            subst hv7
            have HLq := Lib.hid hl7
            clear hl7
            go_wp2_with fail
            refine (rsame11_any w7 w7.heap.size (k * 6) c7 (k * 6) c4 A7 A4 l7 (readS l) HLq.out HE7.out Hlen7.out Hlen4.out (Nat.le_refl _) (by omega) (by omega) hcap7 hcap4).mono ?_
            rintro e w8 ⟨rfl, hb8⟩
            have HE8 : Hid (LiesV w8 w8.heap.size A4 (ents (readS l))) := (HE7.out.below hb8).le hb8.size
            have HB8 : Hid (Below N w w8) := HB7.out.trans (hb8.mono hz7)
            obtain ⟨dk, hdk⟩ : ∃ dk, decide (l7 = readS l) = dk := ⟨_, rfl⟩
            have Hdk : Hid (dk = true ↔ ShOK l) := by show _ ↔ _; rw [← hdk, decide_eq_true_eq]; exact Hok.out
            rw [hdk]
            clear hdk hb8 HE7 HB7 HQ7 HLq
            go_wp2_with fail
            go_ret2
            refine ⟨.inl ⟨A4, c4, dk, ?_, by rw [Hlenl.out]; exact hcap4, HE8.out, Hdk.out⟩, by rw [hN]; exact HB8.out⟩
            rw [Hlenl.out]
            rfl
          · have Hno : Hid (false = true ↔ ShOK l) := ⟨(fun h => by cases h), fun h => absurd h.1 hno⟩
            clear hno
            go_wp2_with fail
            go_ret2
            refine ⟨.inl ⟨A4, c4, false, ?_, by rw [Hlenl.out]; exact hcap4, HE6.out, Hno.out⟩, by rw [hN]; exact HB6.out⟩
            rw [Hlenl.out]
            rfl
end Go.Proofs.Ytiglffkbaddefaa
