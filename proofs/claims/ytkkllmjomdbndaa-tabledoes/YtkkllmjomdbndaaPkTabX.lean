/-
  Layer 11: the laws' own works.
-/
import Derived.Test.YtkkllmjomdbndaaPkTabW
namespace Go.Proofs.Ytkkllmjomdbndaa
open Go.RowKit
set_option linter.unusedVariables false
set_option linter.unusedSimpArgs false

theorem lat52 (w : World) : Calls Try.prog 25 #[.int .u8 5, .int .u8 2] w fun e w' => e = .returned (.agg (cells (adrB 5 2).1).toArray) ∧ Below w.heap.size w w' := lat_any w 5 2
theorem lat51 (w : World) : Calls Try.prog 25 #[.int .u8 5, .int .u8 1] w fun e w' => e = .returned (.agg (cells (adrB 5 1).1).toArray) ∧ Below w.heap.size w w' := lat_any w 5 1
theorem lat60 (w : World) : Calls Try.prog 25 #[.int .u8 6, .int .u8 0] w fun e w' => e = .returned (.agg (cells (adrB 6 0).1).toArray) ∧ Below w.heap.size w w' := lat_any w 6 0
/-- A table holds the entries of a list. -/
structure Hold (n : Nat) (hn : 0 < n) (l S : List Ent) : Prop where
  tb : Tb n hn l
  mem : ∀ x : Ent, x.count ≠ 0 → (x ∈ l ↔ x ∈ S)
  cnt : cntT l = S.length
theorem Hold.put {n : Nat} {hn : 0 < n} {l S l' : List Ent} {e : Ent} {code : Int} (h : Hold n hn l S) (hok : e.ok) (hno : ∀ x ∈ S, x.adr ≠ e.adr) (hroom : S.length + 1 < n) (hp : PutP n hn l e code l') : code = 0 ∧ Hold n hn l' (S ++ [e]) := by
  have hno' : ∀ f ∈ l, f.count ≠ 0 → f.adr ≠ e.adr := fun f hf hc => hno f ((h.mem f hc).1 hf)
  rcases hp.what with ⟨h1, _⟩ | ⟨_, ⟨f, hf, hfc, hfa⟩, _⟩ | ⟨_, _, h1, _⟩ | ⟨_, _, _, h1, h2, h3⟩
  · exact absurd hok h1
  · exact absurd hfa (hno' f hf hfc)
  · rw [h.cnt] at h1; omega
  · refine ⟨h1, hp.tb, fun x hx => ?_, by rw [h2, h.cnt, List.length_append]; rfl⟩
    rw [h3 x hx, List.mem_append, List.mem_singleton, h.mem x hx]
    exact ⟨fun h => h.imp (·.1) id, fun h => h.imp (fun h => ⟨h, hno x h⟩) id⟩
theorem Hold.start (n : Nat) (hn : 0 < n) : Hold n hn (List.replicate n zeroEnt) [] :=
  ⟨Tb.new n hn, fun x hx => ⟨fun h => by rw [List.eq_of_mem_replicate h] at hx; exact absurd rfl hx, by simp⟩, by simp [cntT, zeroEnt]⟩
theorem exHold {l : List Ent} (h : Hold 7 (by decide) l ([] ++ [exE1] ++ [exE2] ++ [exE3])) : l = exL3 :=
  Tb.one h.tb exT3 fun x hx => by
    rw [h.mem x hx]
    simp only [exL3, List.nil_append, List.cons_append, List.mem_cons, List.not_mem_nil, or_false]
    have : x ≠ zeroEnt := fun h => by rw [h] at hx; exact hx rfl
    constructor
    · rintro (h | h | h) <;> simp [h]
    · rintro (h | h | h | h | h | h | h)
      · exact .inr (.inr h)
      iterate 4 exact absurd h this
      · exact .inr (.inl h)
      · exact .inl h
theorem exDrop {l : List Ent} {code : Int} (h : DropP 7 (by decide) exL3 (adrB 5 1) code l) : code = 0 ∧ l = exL4 := by
  rcases h.what with ⟨_, h1, _, h3⟩ | ⟨h1, _⟩
  · refine ⟨h1, Tb.one h.tb exT4 fun x hx => ?_⟩
    rw [h3 x hx]
    have hz : x ≠ zeroEnt := fun h => by rw [h] at hx; exact hx rfl
    simp only [exL3, exL4, List.mem_cons, List.not_mem_nil, or_false]
    constructor
    · rintro ⟨h | h | h | h | h | h | h, ha⟩
      · simp [h]
      iterate 4 exact absurd h hz
      · exact absurd (by rw [h]; rfl) ha
      · simp [h]
    · rintro (h | h | h | h | h | h | h)
      iterate 5 exact absurd h hz
      · exact ⟨by simp [h], by rw [h]; decide⟩
      · exact ⟨by simp [h], by rw [h]; decide⟩
  · exact absurd rfl (h1 exE2 (by simp [exL3]) (by decide))
theorem exDrop2 {l : List Ent} {code : Int} (h : DropP 7 (by decide) exL4 (adrB 5 1) code l) : code = 8 ∧ l = exL4 := by
  rcases h.what with ⟨⟨f, hf, hc, ha⟩, _⟩ | ⟨_, h1, h2⟩
  · exfalso
    have : ∀ f ∈ exL4, f.count ≠ 0 → f.adr ≠ adrB 5 1 := by decide
    exact this f hf hc ha
  · exact ⟨h1, h2⟩
theorem exPut {l : List Ent} {code : Int} (h : PutP 7 (by decide) exL3 zeroEnt code l) : code = 2 ∧ l = exL3 := by
  have hno : ¬ zeroEnt.ok := by decide
  rcases h.what with ⟨_, h1, h2⟩ | ⟨h1, _⟩ | ⟨h1, _⟩ | ⟨h1, _⟩
  · exact ⟨h1, h2⟩
  · exact absurd h1 hno
  · exact absurd h1 hno
  · exact absurd h1 hno
theorem exOK : TabOK exL3 := ⟨by decide, by decide, exT3, by decide⟩
theorem exGet {r : Ending} (h : GetP exL4 (adrB 6 0) r) : r = entV exE3 true := by
  rcases h with ⟨e, he, hc, ha, hr⟩ | ⟨h, _⟩
  · have : ∀ f ∈ exL4, f.count ≠ 0 → f.adr = adrB 6 0 → f = exE3 := by decide
    rw [hr, this e he hc ha]
  · exact absurd rfl (h exE3 (by simp [exL4]) (by decide))
theorem exSlot {r : Ending} (h : SlotP exL4 1 r) : r = entV exE1 true := by
  rcases h with ⟨k, e, he, hc, hs, _, hr⟩ | ⟨h, _⟩
  · have : ∀ f ∈ exL4, f.count ≠ 0 → f.slot = 1 → f = exE1 := by decide
    rw [hr, this e (List.mem_of_getElem? he) hc hs]
  · exact absurd rfl (h exE1 (by simp [exL4]) (by decide))
theorem exec_eql_same {P : Program} {W : World} {ρ : Operand → Value} {o : Oper} (t : TypeId) (x y : Operand) (u : TypeId) (ho : o.op = .binOp .eql t x y u) {n : Nat} (ht : P.underlying t = some (.array n 5)) (h5 : P.underlying 5 = some (.int .u8)) (hc : P.cellsOf 5 = 1)
    (hm : P.eqGuardType P.depth t = false) {xs : List UInt8} (hx : ρ x = .agg (cells xs).toArray) (hy : ρ y = .agg (cells xs).toArray) (h1 : xs.length = n) : (execOp ρ o).run P W = .ok (.value (.bool true)) W := by
  have := exec_eql_bytes (W := W) t x y u ho ht h5 hc hm hx hy h1 h1
  rwa [beq_self_eq_true] at this
theorem range_but {w w' : World} {b o B : Nat} {L : List Nat} {cs : List Value} (h : w.rangeAt b o cs) (hB : But L B w w') (hb : b < B) (hL : b ∉ L) : w'.rangeAt b o cs := fun j v hj => (World.cell?_of_block (hB.block b hb hL)).trans (h j v hj)

set_option maxRecDepth 100000 in
set_option maxHeartbeats 16000000 in
theorem works11_any (w : World) : Calls Try.prog 7 #[] w fun e w' => e = .returned (.bool true) ∧ Below w.heap.size w w' := by
  have h7 : (0 : Nat) < 7 := by decide
  obtain ⟨N, hN⟩ : ∃ N, w.heap.size = N := ⟨_, rfl⟩
  go_enter Try.func7, Try.ntmps7
  go_wp2_with fail
  refine (tnew_any w 7).mono ?_
  intro r w1 hnew
  unfold New11V at hnew
  rw [if_pos (by decide)] at hnew
  obtain ⟨b, g, rfl, hT1, hb, hg, hb1⟩ := hnew
  rw [hN] at hb hg hb1
  have HTw1 : Hid (TabAt w1 b g 7 7 (List.replicate 7 zeroEnt)) := hT1
  have HS := Lib.hid (Hold.start 7 h7)
  have HBw1 : Hid (Below N w w1) := hb1
  have HZw1 : Hid (N ≤ w1.heap.size) := by show _ ≤ _; have := hb1.size; omega
  clear hT1 hb1
  go_wp2_with fail
  refine (tnew_any w1 0).mono ?_
  intro r w1' hnew
  unfold New11V at hnew
  rw [if_neg (by decide)] at hnew
  obtain ⟨rfl, hw⟩ := hnew
  rw [hw]
  clear hw w1'
  go_wp2_with fail
  refine (lat52 w1).mono ?_
  rintro r w3 ⟨rfl, hbb⟩
  have HTw3 : Hid (TabAt w3 b g 7 7 (List.replicate 7 zeroEnt)) := HTw1.out.later hbb
  have HBw3 : Hid (Below N w w3) := HBw1.out.trans (hbb.mono HZw1.out)
  have HZw3 : Hid (N ≤ w3.heap.size) := by show _ ≤ _; have := hbb.size; have := HZw1.out; omega
  clear hbb HTw1 HBw1 HZw1
  go_wp2_with ((with_reducible refine at_build 32 ?_); refine wpList_build_to rfl 32 _ rfl exE1.cs (by rw [Array.toList_map]; exact (built_ent (adrB 5 2) 1 1)) ?_)
  refine (tput_any w3 b g 7 7 h7 _ HTw3.out HS.out.tb exE1).mono ?_
  rintro r w4 ⟨code, lw4, rfl, hT, hp, hbb⟩
  obtain ⟨rfl, hS⟩ := HS.out.put (by decide) (by decide) (by decide) hp
  have HSw4 := Lib.hid hS
  clear HS
  have HS := HSw4
  clear HSw4 hp hS
  have HTw4 : Hid (TabAt w4 b g 7 7 lw4) := hT
  have HBw4 : Hid (Below N w w4) := HBw3.out.trans ((hbb.less HZw3.out).below (fun k hk => by rw [List.mem_singleton.1 hk]; exact hg))
  have HZw4 : Hid (N ≤ w4.heap.size) := by show _ ≤ _; have := hbb.size; have := HZw3.out; omega
  clear hbb HTw3 HBw3 HZw3
  clear hT
  go_wp2_with fail
  refine (lat51 w4).mono ?_
  rintro r w6 ⟨rfl, hbb⟩
  have HTw6 : Hid (TabAt w6 b g 7 7 lw4) := HTw4.out.later hbb
  have HBw6 : Hid (Below N w w6) := HBw4.out.trans (hbb.mono HZw4.out)
  have HZw6 : Hid (N ≤ w6.heap.size) := by show _ ≤ _; have := hbb.size; have := HZw4.out; omega
  clear hbb HTw4 HBw4 HZw4
  go_wp2_with ((with_reducible refine at_build 32 ?_); refine wpList_build_to rfl 32 _ rfl exE2.cs (by rw [Array.toList_map]; exact (built_ent (adrB 5 1) 2 3)) ?_)
  refine (tput_any w6 b g 7 7 h7 _ HTw6.out HS.out.tb exE2).mono ?_
  rintro r w7 ⟨code, lw7, rfl, hT, hp, hbb⟩
  obtain ⟨rfl, hS⟩ := HS.out.put (by decide) (by decide) (by decide) hp
  have HSw7 := Lib.hid hS
  clear HS
  have HS := HSw7
  clear HSw7 hp hS
  have HTw7 : Hid (TabAt w7 b g 7 7 lw7) := hT
  have HBw7 : Hid (Below N w w7) := HBw6.out.trans ((hbb.less HZw6.out).below (fun k hk => by rw [List.mem_singleton.1 hk]; exact hg))
  have HZw7 : Hid (N ≤ w7.heap.size) := by show _ ≤ _; have := hbb.size; have := HZw6.out; omega
  clear hbb HTw6 HBw6 HZw6
  clear hT
  go_wp2_with fail
  refine (lat60 w7).mono ?_
  rintro r w9 ⟨rfl, hbb⟩
  have HTw9 : Hid (TabAt w9 b g 7 7 lw7) := HTw7.out.later hbb
  have HBw9 : Hid (Below N w w9) := HBw7.out.trans (hbb.mono HZw7.out)
  have HZw9 : Hid (N ≤ w9.heap.size) := by show _ ≤ _; have := hbb.size; have := HZw7.out; omega
  clear hbb HTw7 HBw7 HZw7
  go_wp2_with ((with_reducible refine at_build 32 ?_); refine wpList_build_to rfl 32 _ rfl exE3.cs (by rw [Array.toList_map]; exact (built_ent (adrB 6 0) 3 1)) ?_)
  refine (tput_any w9 b g 7 7 h7 _ HTw9.out HS.out.tb exE3).mono ?_
  rintro r w10 ⟨code, lw10, rfl, hT, hp, hbb⟩
  obtain ⟨rfl, hS⟩ := HS.out.put (by decide) (by decide) (by decide) hp
  obtain rfl := exHold hS
  clear hp hS
  have HTw10 : Hid (TabAt w10 b g 7 7 exL3) := hT
  have HBw10 : Hid (Below N w w10) := HBw9.out.trans ((hbb.less HZw9.out).below (fun k hk => by rw [List.mem_singleton.1 hk]; exact hg))
  have HZw10 : Hid (N ≤ w10.heap.size) := by show _ ≤ _; have := hbb.size; have := HZw9.out; omega
  clear hbb HTw9 HBw9 HZw9
  clear hT
  go_wp2_with ((with_reducible refine at_build 32 ?_); refine wpList_build_to rfl 32 _ rfl zeroEnt.cs (by rw [Array.toList_map]; exact Try.builtE0) ?_)
  refine (tput_any w10 b g 7 7 h7 _ HTw10.out exT3 zeroEnt).mono ?_
  rintro r w11 ⟨code, lw11, rfl, hT, hp, hbb⟩
  obtain ⟨rfl, rfl⟩ := exPut hp
  clear hp
  have HTw11 : Hid (TabAt w11 b g 7 7 exL3) := hT
  have HBw11 : Hid (Below N w w11) := HBw10.out.trans ((hbb.less HZw10.out).below (fun k hk => by rw [List.mem_singleton.1 hk]; exact hg))
  have HZw11 : Hid (N ≤ w11.heap.size) := by show _ ≤ _; have := hbb.size; have := HZw10.out; omega
  clear hbb HTw10 HBw10 HZw10
  clear hT HS
  go_wp2_with fail
  refine (tplaces_any w11 b g 7 7 _ HTw11.out).mono ?_
  rintro r w12 ⟨ARP, cRP, rfl, hown, hbb⟩
  obtain ⟨gRP, capRP, hv, hcapRP, hcmRP, hge, hlt⟩ := own_form hown (by decide)
  injection hv with e1 e2 e3
  subst e1 e3
  clear e2
  have RPne : gRP ≠ g := by have := HTw11.out.glt; omega
  have RPw12 : Hid (w12.rangeAt gRP 0 (ents exL3) ∧ gRP < w12.heap.size) := ⟨own_range hown 0 _ (fun j u hj => by rw [Nat.zero_add]; exact hj), hlt⟩
  clear hge hlt
  have HTw12 : Hid (TabAt w12 b g 7 7 exL3) := HTw11.out.later hbb
  have HBw12 : Hid (Below N w w12) := HBw11.out.trans (hbb.mono HZw11.out)
  have HZw12 : Hid (N ≤ w12.heap.size) := by show _ ≤ _; have := hbb.size; have := HZw11.out; omega
  clear hbb HTw11 HBw11 HZw11
  have HO := Lib.hid hown
  clear hown
  go_wp2_with fail
  have HL : Hid (LiesV w12 w12.heap.size (some ⟨gRP, 0, none⟩) (ents exL3)) := fun _ => ⟨gRP, 0, rfl, RPw12.out.2, RPw12.out.1⟩
  refine (tof_any w12 w12.heap.size 7 cRP (some ⟨gRP, 0, none⟩) exL3 HL.out rfl (Nat.le_refl _) hcapRP (by decide)).mono ?_
  rintro r w13 ⟨hof, hbb⟩
  clear HL HO
  obtain ⟨bo, rfl⟩ : ∃ bo, r = .returned (.tuple #[.pointer (some ⟨bo, 0, none⟩), .bool true]) := by
    rcases hof with ⟨_, b2, _, _, h, _⟩ | ⟨h, _⟩
    · exact ⟨b2, h⟩
    · exact absurd exOK h
  clear hof
  have HTw13 : Hid (TabAt w13 b g 7 7 exL3) := HTw12.out.later hbb
  have HBw13 : Hid (Below N w w13) := HBw12.out.trans (hbb.mono HZw12.out)
  have HZw13 : Hid (N ≤ w13.heap.size) := by show _ ≤ _; have := hbb.size; have := HZw12.out; omega
  have RPw13 : Hid (w13.rangeAt gRP 0 (ents exL3) ∧ gRP < w13.heap.size) := ⟨range_below RPw12.out.1 hbb RPw12.out.2, by have := hbb.size; have := RPw12.out.2; omega⟩
  clear hbb HTw12 HBw12 HZw12 RPw12
  go_wp2_with fail
  refine (tlongest_any w13 b g 7 7 h7 _ HTw13.out).mono ?_
  rintro r w14 ⟨rfl, hbb⟩
  rw [exLong]
  have HTw14 : Hid (TabAt w14 b g 7 7 exL3) := HTw13.out.later hbb
  have HBw14 : Hid (Below N w w14) := HBw13.out.trans (hbb.mono HZw13.out)
  have HZw14 : Hid (N ≤ w14.heap.size) := by show _ ≤ _; have := hbb.size; have := HZw13.out; omega
  have RPw14 : Hid (w14.rangeAt gRP 0 (ents exL3) ∧ gRP < w14.heap.size) := ⟨range_below RPw13.out.1 hbb RPw13.out.2, by have := hbb.size; have := RPw13.out.2; omega⟩
  clear hbb HTw13 HBw13 HZw13 RPw13
  go_wp2_with fail
  refine (lat51 w14).mono ?_
  rintro r w15 ⟨rfl, hbb⟩
  have HTw15 : Hid (TabAt w15 b g 7 7 exL3) := HTw14.out.later hbb
  have HBw15 : Hid (Below N w w15) := HBw14.out.trans (hbb.mono HZw14.out)
  have HZw15 : Hid (N ≤ w15.heap.size) := by show _ ≤ _; have := hbb.size; have := HZw14.out; omega
  have RPw15 : Hid (w15.rangeAt gRP 0 (ents exL3) ∧ gRP < w15.heap.size) := ⟨range_below RPw14.out.1 hbb RPw14.out.2, by have := hbb.size; have := RPw14.out.2; omega⟩
  clear hbb HTw14 HBw14 HZw14 RPw14
  go_wp2_with fail
  refine (tdrop_any w15 b g 7 7 h7 _ HTw15.out exT3 (adrB 5 1)).mono ?_
  rintro r w16 ⟨code, lw16, rfl, hT, hp, hbb⟩
  obtain ⟨rfl, rfl⟩ := exDrop hp
  clear hp
  have HTw16 : Hid (TabAt w16 b g 7 7 exL4) := hT
  have HBw16 : Hid (Below N w w16) := HBw15.out.trans ((hbb.less HZw15.out).below (fun k hk => by rw [List.mem_singleton.1 hk]; exact hg))
  have HZw16 : Hid (N ≤ w16.heap.size) := by show _ ≤ _; have := hbb.size; have := HZw15.out; omega
  have RPw16 : Hid (w16.rangeAt gRP 0 (ents exL3) ∧ gRP < w16.heap.size) := ⟨range_but RPw15.out.1 hbb RPw15.out.2 (by simp only [List.mem_singleton]; exact RPne), by have := hbb.size; have := RPw15.out.2; omega⟩
  clear hbb HTw15 HBw15 HZw15 RPw15
  clear hT
  go_wp2_with fail
  refine (lat51 w16).mono ?_
  rintro r w17 ⟨rfl, hbb⟩
  have HTw17 : Hid (TabAt w17 b g 7 7 exL4) := HTw16.out.later hbb
  have HBw17 : Hid (Below N w w17) := HBw16.out.trans (hbb.mono HZw16.out)
  have HZw17 : Hid (N ≤ w17.heap.size) := by show _ ≤ _; have := hbb.size; have := HZw16.out; omega
  have RPw17 : Hid (w17.rangeAt gRP 0 (ents exL3) ∧ gRP < w17.heap.size) := ⟨range_below RPw16.out.1 hbb RPw16.out.2, by have := hbb.size; have := RPw16.out.2; omega⟩
  clear hbb HTw16 HBw16 HZw16 RPw16
  go_wp2_with fail
  refine (tdrop_any w17 b g 7 7 h7 _ HTw17.out exT4 (adrB 5 1)).mono ?_
  rintro r w18 ⟨code, lw18, rfl, hT, hp, hbb⟩
  obtain ⟨rfl, rfl⟩ := exDrop2 hp
  clear hp
  have HTw18 : Hid (TabAt w18 b g 7 7 exL4) := hT
  have HBw18 : Hid (Below N w w18) := HBw17.out.trans ((hbb.less HZw17.out).below (fun k hk => by rw [List.mem_singleton.1 hk]; exact hg))
  have HZw18 : Hid (N ≤ w18.heap.size) := by show _ ≤ _; have := hbb.size; have := HZw17.out; omega
  have RPw18 : Hid (w18.rangeAt gRP 0 (ents exL3) ∧ gRP < w18.heap.size) := ⟨range_but RPw17.out.1 hbb RPw17.out.2 (by simp only [List.mem_singleton]; exact RPne), by have := hbb.size; have := RPw17.out.2; omega⟩
  clear hbb HTw17 HBw17 HZw17 RPw17
  clear hT
  go_wp2_with fail
  refine (tplaces_any w18 b g 7 7 _ HTw18.out).mono ?_
  rintro r w19 ⟨ARQ, cRQ, rfl, hown, hbb⟩
  obtain ⟨gRQ, capRQ, hv, hcapRQ, hcmRQ, hge, hlt⟩ := own_form hown (by decide)
  injection hv with e1 e2 e3
  subst e1 e3
  clear e2
  have RQne : gRQ ≠ g := by have := HTw18.out.glt; omega
  have RQw19 : Hid (w19.rangeAt gRQ 0 (ents exL4) ∧ gRQ < w19.heap.size) := ⟨own_range hown 0 _ (fun j u hj => by rw [Nat.zero_add]; exact hj), hlt⟩
  clear hge hlt
  have HTw19 : Hid (TabAt w19 b g 7 7 exL4) := HTw18.out.later hbb
  have HBw19 : Hid (Below N w w19) := HBw18.out.trans (hbb.mono HZw18.out)
  have HZw19 : Hid (N ≤ w19.heap.size) := by show _ ≤ _; have := hbb.size; have := HZw18.out; omega
  have RPw19 : Hid (w19.rangeAt gRP 0 (ents exL3) ∧ gRP < w19.heap.size) := ⟨range_below RPw18.out.1 hbb RPw18.out.2, by have := hbb.size; have := RPw18.out.2; omega⟩
  clear hbb HTw18 HBw18 HZw18 RPw18
  clear hown
  go_wp2_with fail
  refine (lat60 w19).mono ?_
  rintro r w20 ⟨rfl, hbb⟩
  have HTw20 : Hid (TabAt w20 b g 7 7 exL4) := HTw19.out.later hbb
  have HBw20 : Hid (Below N w w20) := HBw19.out.trans (hbb.mono HZw19.out)
  have HZw20 : Hid (N ≤ w20.heap.size) := by show _ ≤ _; have := hbb.size; have := HZw19.out; omega
  have RPw20 : Hid (w20.rangeAt gRP 0 (ents exL3) ∧ gRP < w20.heap.size) := ⟨range_below RPw19.out.1 hbb RPw19.out.2, by have := hbb.size; have := RPw19.out.2; omega⟩
  have RQw20 : Hid (w20.rangeAt gRQ 0 (ents exL4) ∧ gRQ < w20.heap.size) := ⟨range_below RQw19.out.1 hbb RQw19.out.2, by have := hbb.size; have := RQw19.out.2; omega⟩
  clear hbb HTw19 HBw19 HZw19 RPw19 RQw19
  go_wp2_with fail
  refine (tget_any w20 b g 7 7 h7 _ HTw20.out exT4 (adrB 6 0)).mono ?_
  rintro r w21 ⟨hr, hbb⟩
  obtain rfl := exGet hr
  clear hr
  have HTw21 : Hid (TabAt w21 b g 7 7 exL4) := HTw20.out.later hbb
  have HBw21 : Hid (Below N w w21) := HBw20.out.trans (hbb.mono HZw20.out)
  have HZw21 : Hid (N ≤ w21.heap.size) := by show _ ≤ _; have := hbb.size; have := HZw20.out; omega
  have RPw21 : Hid (w21.rangeAt gRP 0 (ents exL3) ∧ gRP < w21.heap.size) := ⟨range_below RPw20.out.1 hbb RPw20.out.2, by have := hbb.size; have := RPw20.out.2; omega⟩
  have RQw21 : Hid (w21.rangeAt gRQ 0 (ents exL4) ∧ gRQ < w21.heap.size) := ⟨range_below RQw20.out.1 hbb RQw20.out.2, by have := hbb.size; have := RQw20.out.2; omega⟩
  clear hbb HTw20 HBw20 HZw20 RPw20 RQw20
  unfold entV
  go_wp2_with (first
    | ((with_reducible refine at_alloc 32 ?_); refine wpList_alloc_rowV rfl 32 rfl zeroEnt.cs Try.zeroEnt11 ?_; intro w22 hra hba hsa; obtain ⟨gRX, hgRX⟩ : ∃ q, w21.heap.size = q := ⟨_, rfl⟩; rw [hgRX] at hra hba ⊢)
    | ((with_reducible refine at_store 32 ?_); refine wpList_store_rowV rfl 32 _ _ rfl gRX exE3.cs rfl rfl 32 zeroEnt.cs hra (by rw [List.size_toArray]; exact ent_size _) rfl (all_oneCell_toArray (Ent.one _)) ?_; intro w23 hrb hgb hsb))
  have hbb : Below w21.heap.size w21 w23 := by rw [hgRX]; exact below_grown hba hgb (Nat.le_refl _) (by have := hba.size; omega)
  have RXw23 : Hid (w23.rangeAt gRX 0 exE3.cs ∧ gRX < w23.heap.size) := ⟨row_range hrb, hrb.lt⟩
  clear hra hba hsa hrb hgb hsb hgRX
  have HTw23 : Hid (TabAt w23 b g 7 7 exL4) := HTw21.out.later hbb
  have HBw23 : Hid (Below N w w23) := HBw21.out.trans (hbb.mono HZw21.out)
  have HZw23 : Hid (N ≤ w23.heap.size) := by show _ ≤ _; have := hbb.size; have := HZw21.out; omega
  have RPw23 : Hid (w23.rangeAt gRP 0 (ents exL3) ∧ gRP < w23.heap.size) := ⟨range_below RPw21.out.1 hbb RPw21.out.2, by have := hbb.size; have := RPw21.out.2; omega⟩
  have RQw23 : Hid (w23.rangeAt gRQ 0 (ents exL4) ∧ gRQ < w23.heap.size) := ⟨range_below RQw21.out.1 hbb RQw21.out.2, by have := hbb.size; have := RQw21.out.2; omega⟩
  clear hbb HTw21 HBw21 HZw21 RPw21 RQw21
  refine (tslot_any w23 b g 7 7 _ HTw23.out 1).mono ?_
  rintro r w24 ⟨hr, hbb⟩
  obtain rfl := exSlot hr
  clear hr
  have HTw24 : Hid (TabAt w24 b g 7 7 exL4) := HTw23.out.later hbb
  have HBw24 : Hid (Below N w w24) := HBw23.out.trans (hbb.mono HZw23.out)
  have HZw24 : Hid (N ≤ w24.heap.size) := by show _ ≤ _; have := hbb.size; have := HZw23.out; omega
  have RPw24 : Hid (w24.rangeAt gRP 0 (ents exL3) ∧ gRP < w24.heap.size) := ⟨range_below RPw23.out.1 hbb RPw23.out.2, by have := hbb.size; have := RPw23.out.2; omega⟩
  have RQw24 : Hid (w24.rangeAt gRQ 0 (ents exL4) ∧ gRQ < w24.heap.size) := ⟨range_below RQw23.out.1 hbb RQw23.out.2, by have := hbb.size; have := RQw23.out.2; omega⟩
  have RXw24 : Hid (w24.rangeAt gRX 0 exE3.cs ∧ gRX < w24.heap.size) := ⟨range_below RXw23.out.1 hbb RXw23.out.2, by have := hbb.size; have := RXw23.out.2; omega⟩
  clear hbb HTw23 HBw23 HZw23 RPw23 RQw23 RXw23
  unfold entV
  go_wp2_with (first
    | ((with_reducible refine at_alloc 32 ?_); refine wpList_alloc_rowV rfl 32 rfl zeroEnt.cs Try.zeroEnt11 ?_; intro w25 hra hba hsa; obtain ⟨gRS, hgRS⟩ : ∃ q, w24.heap.size = q := ⟨_, rfl⟩; rw [hgRS] at hra hba ⊢)
    | ((with_reducible refine at_store 32 ?_); refine wpList_store_rowV rfl 32 _ _ rfl gRS exE1.cs rfl rfl 32 zeroEnt.cs hra (by rw [List.size_toArray]; exact ent_size _) rfl (all_oneCell_toArray (Ent.one _)) ?_; intro w26 hrb hgb hsb))
  have hbb : Below w24.heap.size w24 w26 := by rw [hgRS]; exact below_grown hba hgb (Nat.le_refl _) (by have := hba.size; omega)
  have RSw26 : Hid (w26.rangeAt gRS 0 exE1.cs ∧ gRS < w26.heap.size) := ⟨row_range hrb, hrb.lt⟩
  clear hra hba hsa hrb hgb hsb hgRS
  have HTw26 : Hid (TabAt w26 b g 7 7 exL4) := HTw24.out.later hbb
  have HBw26 : Hid (Below N w w26) := HBw24.out.trans (hbb.mono HZw24.out)
  have HZw26 : Hid (N ≤ w26.heap.size) := by show _ ≤ _; have := hbb.size; have := HZw24.out; omega
  have RPw26 : Hid (w26.rangeAt gRP 0 (ents exL3) ∧ gRP < w26.heap.size) := ⟨range_below RPw24.out.1 hbb RPw24.out.2, by have := hbb.size; have := RPw24.out.2; omega⟩
  have RQw26 : Hid (w26.rangeAt gRQ 0 (ents exL4) ∧ gRQ < w26.heap.size) := ⟨range_below RQw24.out.1 hbb RQw24.out.2, by have := hbb.size; have := RQw24.out.2; omega⟩
  have RXw26 : Hid (w26.rangeAt gRX 0 exE3.cs ∧ gRX < w26.heap.size) := ⟨range_below RXw24.out.1 hbb RXw24.out.2, by have := hbb.size; have := RXw24.out.2; omega⟩
  clear hbb HTw24 HBw24 HZw24 RPw24 RQw24 RXw24
  refine (tcopy_any w26 b g 7 7 _ HTw26.out).mono ?_
  rintro r w27 ⟨bz, gz, cz, rfl, hTz, _, _, hbb⟩
  have HTz := Lib.hid hTz
  clear hTz
  have HTw27 : Hid (TabAt w27 b g 7 7 exL4) := HTw26.out.later hbb
  have HBw27 : Hid (Below N w w27) := HBw26.out.trans (hbb.mono HZw26.out)
  have HZw27 : Hid (N ≤ w27.heap.size) := by show _ ≤ _; have := hbb.size; have := HZw26.out; omega
  have RPw27 : Hid (w27.rangeAt gRP 0 (ents exL3) ∧ gRP < w27.heap.size) := ⟨range_below RPw26.out.1 hbb RPw26.out.2, by have := hbb.size; have := RPw26.out.2; omega⟩
  have RQw27 : Hid (w27.rangeAt gRQ 0 (ents exL4) ∧ gRQ < w27.heap.size) := ⟨range_below RQw26.out.1 hbb RQw26.out.2, by have := hbb.size; have := RQw26.out.2; omega⟩
  have RXw27 : Hid (w27.rangeAt gRX 0 exE3.cs ∧ gRX < w27.heap.size) := ⟨range_below RXw26.out.1 hbb RXw26.out.2, by have := hbb.size; have := RXw26.out.2; omega⟩
  have RSw27 : Hid (w27.rangeAt gRS 0 exE1.cs ∧ gRS < w27.heap.size) := ⟨range_below RSw26.out.1 hbb RSw26.out.2, by have := hbb.size; have := RSw26.out.2; omega⟩
  clear hbb HTw26 HBw26 HZw26 RPw26 RQw26 RXw26 RSw26
  have HSz := Lib.hid (adr_size (adrB 5 2))
  go_wp2_with fail
  obtain ⟨wd, hwd⟩ : ∃ wd, w27.drew = wd := ⟨_, rfl⟩
  have hSc : Below wd.heap.size wd w27.drew := by rw [hwd]; exact Below.refl _ _
  refine wp_region_held_drew (S := fun W => Below wd.heap.size wd W) (by kernel_rfl) hSc (fun hHeld => ?_)
  have hT := HTw27.out.drew
  have hTz := HTz.out.drew
  have hBd : Below N w w27.drew := HBw27.out.drew
  have hZd : N ≤ w27.drew.heap.size := HZw27.out
  have p1 : w27.drew.rangeAt gRP 0 (ents exL3) ∧ gRP < w27.drew.heap.size := RPw27.out
  have p2 : w27.drew.rangeAt gRQ 0 (ents exL4) ∧ gRQ < w27.drew.heap.size := RQw27.out
  have p3 : w27.drew.rangeAt gRX 0 exE3.cs ∧ gRX < w27.drew.heap.size := RXw27.out
  have p4 : w27.drew.rangeAt gRS 0 exE1.cs ∧ gRS < w27.drew.heap.size := RSw27.out
  rw [hwd] at hSc hHeld hT hTz hBd hZd p1 p2 p3 p4 ⊢
  clear hwd HTw27 HBw27 HZw27 RPw27 RQw27 RXw27 RSw27 HTz
  have k1 : wd.cell? ⟨gRP, 202, none⟩ = some (.int .i64 2) := p1.1 202 _ (by kernel_rfl)
  have k2 : wd.cell? ⟨gRP, 236, none⟩ = some (.int .i64 1) := p1.1 236 _ (by kernel_rfl)
  have k3 : wd.cell? ⟨gRP, 32, none⟩ = some (.int .i64 3) := p1.1 32 _ (by kernel_rfl)
  have k4 : wd.cell? ⟨gRQ, 202, none⟩ = some (.int .i64 1) := p2.1 202 _ (by kernel_rfl)
  have k5 : wd.cell? ⟨gRQ, 236, none⟩ = some (.int .i64 3) := p2.1 236 _ (by kernel_rfl)
  have k6 : wd.cell? ⟨gRX, 32, none⟩ = some (.int .i64 3) := p3.1 32 _ (by kernel_rfl)
  have q7 : wd.rangeAt gRS 0 (cells (adrB 5 2).1) := adr_of (e := exE1) p4.1
  have l1 := p1.2
  have l2 := p2.2
  have l3 := p3.2
  have l4 := p4.2
  clear p1 p2 p3 p4
  have hbl := hT.blt
  have hgl := hT.glt
  have hbz := hTz.blt
  have hgz := hTz.glt
  as_aux_lemma =>
    refine wpAnyH_take (i := 0) (oi := ⟨_, _, _, _, _, _⟩) (v := ?_) rfl (by kernel_rfl) (by kernel_rfl) (by kernel_rfl) (fun _ _ _ h => h) (Or.inl ⟨by rfl, ?_⟩) (by assumption) ?_
    rotate_left
    · intro W hSW; go_simp; try with_reducible rfl
    try simp only [Act.put, List.setIfInBounds_toArray, List.set_cons_zero, List.set_cons_succ]
    refine wpAnyH_take (i := 1) (oi := ⟨_, _, _, _, _, _⟩) (v := ?_) rfl (by kernel_rfl) (by kernel_rfl) (by kernel_rfl) (fun _ _ _ h => h) (Or.inl ⟨by rfl, ?_⟩) (by assumption) ?_
    rotate_left
    · intro W hSW; go_simp; try with_reducible rfl
    try simp only [Act.put, List.setIfInBounds_toArray, List.set_cons_zero, List.set_cons_succ]
    refine wpAnyH_take (i := 2) (oi := ⟨_, _, _, _, _, _⟩) (v := ?_) rfl (by kernel_rfl) (by kernel_rfl) (by kernel_rfl) (fun _ _ _ h => h) (Or.inl ⟨by rfl, ?_⟩) (by assumption) ?_
    rotate_left
    · intro W hSW; go_simp; try with_reducible rfl
    try simp only [Act.put, List.setIfInBounds_toArray, List.set_cons_zero, List.set_cons_succ]
    refine wpAnyH_take (i := 3) (oi := ⟨_, _, _, _, _, _⟩) (v := ?_) rfl (by kernel_rfl) (by kernel_rfl) (by kernel_rfl) (fun _ _ _ h => h) (Or.inl ⟨by rfl, ?_⟩) (by assumption) ?_
    rotate_left
    · intro W hSW; go_simp; try with_reducible rfl
    try simp only [Act.put, List.setIfInBounds_toArray, List.set_cons_zero, List.set_cons_succ]
    refine wpAnyH_take (i := 4) (oi := ⟨_, _, _, _, _, _⟩) (v := ?_) rfl (by kernel_rfl) (by kernel_rfl) (by kernel_rfl) (fun _ _ _ h => h) (Or.inl ⟨by rfl, ?_⟩) (by assumption) ?_
    rotate_left
    · intro W hSW; go_simp; try with_reducible rfl
    try simp only [Act.put, List.setIfInBounds_toArray, List.set_cons_zero, List.set_cons_succ]
    refine wpAnyH_take (i := 5) (oi := ⟨_, _, _, _, _, _⟩) (v := ?_) rfl (by kernel_rfl) (by kernel_rfl) (by kernel_rfl) (fun _ _ _ h => h) (Or.inl ⟨by rfl, ?_⟩) (by assumption) ?_
    rotate_left
    · intro W hSW; go_simp; try with_reducible rfl
    try simp only [Act.put, List.setIfInBounds_toArray, List.set_cons_zero, List.set_cons_succ]
    refine wpAnyH_take (i := 6) (oi := ⟨_, _, _, _, _, _⟩) (v := ?_) rfl (by kernel_rfl) (by kernel_rfl) (by kernel_rfl) (fun _ _ _ h => h) (Or.inl ⟨by rfl, ?_⟩) (by assumption) ?_
    rotate_left
    · intro W hSW; go_simp; try with_reducible rfl
    try simp only [Act.put, List.setIfInBounds_toArray, List.set_cons_zero, List.set_cons_succ]
    refine wpAnyH_take (i := 7) (oi := ⟨_, _, _, _, _, _⟩) (v := ?_) rfl (by kernel_rfl) (by kernel_rfl) (by kernel_rfl) (fun _ _ _ h => h) (Or.inl ⟨by rfl, ?_⟩) (by assumption) ?_
    rotate_left
    · intro W hSW; go_simp; try with_reducible rfl
    try simp only [Act.put, List.setIfInBounds_toArray, List.set_cons_zero, List.set_cons_succ]
    refine wpAnyH_take (i := 8) (oi := ⟨_, _, _, _, _, _⟩) (v := ?_) rfl (by kernel_rfl) (by kernel_rfl) (by kernel_rfl) (fun _ _ _ h => h) (Or.inl ⟨by rfl, ?_⟩) (by assumption) ?_
    rotate_left
    · intro W hSW; go_simp; try with_reducible rfl
    try simp only [Act.put, List.setIfInBounds_toArray, List.set_cons_zero, List.set_cons_succ]
    as_aux_lemma =>
      refine wpAnyH_take (i := 9) (oi := ⟨_, _, _, _, _, _⟩) (v := ?_) rfl (by kernel_rfl) (by kernel_rfl) (by kernel_rfl) (fun _ _ _ h => h) (Or.inl ⟨by rfl, ?_⟩) (by assumption) ?_
      rotate_left
      · intro W hSW; go_simp; try with_reducible rfl
      try simp only [Act.put, List.setIfInBounds_toArray, List.set_cons_zero, List.set_cons_succ]
      refine wpAnyH_take (i := 10) (oi := ⟨_, _, _, _, _, _⟩) (v := ?_) rfl (by kernel_rfl) (by kernel_rfl) (by kernel_rfl) (fun _ _ _ h => h) (Or.inl ⟨by rfl, ?_⟩) (by assumption) ?_
      rotate_left
      · intro W hSW; go_simp; try with_reducible rfl
      try simp only [Act.put, List.setIfInBounds_toArray, List.set_cons_zero, List.set_cons_succ]
      refine wpAnyH_take (i := 11) (oi := ⟨_, _, _, _, _, _⟩) (v := ?_) rfl (by kernel_rfl) (by kernel_rfl) (by kernel_rfl) (fun _ _ _ h => h) (Or.inl ⟨by rfl, ?_⟩) (by assumption) ?_
      rotate_left
      · intro W hSW; go_simp; try with_reducible rfl
      try simp only [Act.put, List.setIfInBounds_toArray, List.set_cons_zero, List.set_cons_succ]
      refine wpAnyH_take (i := 12) (oi := ⟨_, _, _, _, _, _⟩) (v := ?_) rfl (by kernel_rfl) (by kernel_rfl) (by kernel_rfl) (fun _ _ _ h => h) (Or.inl ⟨by rfl, ?_⟩) (by assumption) ?_
      rotate_left
      · intro W hSW; go_simp; try with_reducible rfl
      try simp only [Act.put, List.setIfInBounds_toArray, List.set_cons_zero, List.set_cons_succ]
      refine wpAnyH_take (i := 13) (oi := ⟨_, _, _, _, _, _⟩) (v := ?_) rfl (by kernel_rfl) (by kernel_rfl) (by kernel_rfl) (fun _ _ _ h => h) (Or.inl ⟨by rfl, ?_⟩) (by assumption) ?_
      rotate_left
      · intro W hSW; go_simp; try with_reducible rfl
      try simp only [Act.put, List.setIfInBounds_toArray, List.set_cons_zero, List.set_cons_succ]
      refine wpAnyH_take (i := 14) (oi := ⟨_, _, _, _, _, _⟩) (v := ?_) rfl (by kernel_rfl) (by kernel_rfl) (by kernel_rfl) (fun _ _ _ h => h) (Or.inl ⟨by rfl, ?_⟩) (by assumption) ?_
      rotate_left
      · intro W hSW; go_simp; try with_reducible rfl
      try simp only [Act.put, List.setIfInBounds_toArray, List.set_cons_zero, List.set_cons_succ]
      refine wpAnyH_take (i := 15) (oi := ⟨_, _, _, _, _, _⟩) (v := ?_) rfl (by kernel_rfl) (by kernel_rfl) (by kernel_rfl) (fun _ _ _ h => h) (Or.inl ⟨by rfl, ?_⟩) (by assumption) ?_
      rotate_left
      · intro W hSW; go_simp; try with_reducible rfl
      try simp only [Act.put, List.setIfInBounds_toArray, List.set_cons_zero, List.set_cons_succ]
      refine wpAnyH_take (i := 16) (oi := ⟨_, _, _, _, _, _⟩) (v := ?_) rfl (by kernel_rfl) (by kernel_rfl) (by kernel_rfl) (fun _ _ _ h => h) (Or.inl ⟨by rfl, ?_⟩) (by assumption) ?_
      rotate_left
      · intro W hSW; go_simp; try with_reducible rfl
      try simp only [Act.put, List.setIfInBounds_toArray, List.set_cons_zero, List.set_cons_succ]
      refine wpAnyH_take (i := 17) (oi := ⟨_, _, _, _, _, _⟩) (v := ?_) rfl (by kernel_rfl) (by kernel_rfl) (by kernel_rfl) (fun _ _ _ h => h) (Or.inl ⟨by rfl, ?_⟩) (by assumption) ?_
      rotate_left
      · intro W hSW; go_simp; try with_reducible rfl
      try simp only [Act.put, List.setIfInBounds_toArray, List.set_cons_zero, List.set_cons_succ]
      as_aux_lemma =>
        refine wpAnyH_take (i := 18) (oi := ⟨_, _, _, _, _, _⟩) (v := ?_) rfl (by kernel_rfl) (by kernel_rfl) (by kernel_rfl) (fun _ _ _ h => h) (Or.inl ⟨by rfl, ?_⟩) (by assumption) ?_
        rotate_left
        · intro W hSW; go_simp; try with_reducible rfl
        try simp only [Act.put, List.setIfInBounds_toArray, List.set_cons_zero, List.set_cons_succ]
        refine wpAnyH_take (i := 19) (oi := ⟨_, _, _, _, _, _⟩) (v := ?_) rfl (by kernel_rfl) (by kernel_rfl) (by kernel_rfl) (fun _ _ _ h => h) (Or.inl ⟨by rfl, ?_⟩) (by assumption) ?_
        rotate_left
        · intro W hSW; go_simp; try with_reducible rfl
        try simp only [Act.put, List.setIfInBounds_toArray, List.set_cons_zero, List.set_cons_succ]
        refine wpAnyH_take (i := 20) (oi := ⟨_, _, _, _, _, _⟩) (v := ?_) rfl (by kernel_rfl) (by kernel_rfl) (by kernel_rfl) (fun _ _ _ h => h) (Or.inl ⟨by rfl, ?_⟩) (by assumption) ?_
        rotate_left
        · intro W hSW; go_simp; try with_reducible rfl
        try simp only [Act.put, List.setIfInBounds_toArray, List.set_cons_zero, List.set_cons_succ]
        refine wpAnyH_take (i := 21) (oi := ⟨_, _, _, _, _, _⟩) (v := ?_) rfl (by kernel_rfl) (by kernel_rfl) (by kernel_rfl) (fun _ _ _ h => h) (Or.inl ⟨by rfl, ?_⟩) (by assumption) ?_
        rotate_left
        · intro W hSW; go_simp; try with_reducible rfl
        try simp only [Act.put, List.setIfInBounds_toArray, List.set_cons_zero, List.set_cons_succ]
        refine wpAnyH_take (i := 22) (oi := ⟨_, _, _, _, _, _⟩) (v := ?_) rfl (by kernel_rfl) (by kernel_rfl) (by kernel_rfl) (fun _ _ _ h => h) (Or.inl ⟨by rfl, ?_⟩) (by assumption) ?_
        rotate_left
        · intro W hSW; go_simp; try with_reducible rfl
        try simp only [Act.put, List.setIfInBounds_toArray, List.set_cons_zero, List.set_cons_succ]
        refine wpAnyH_take (i := 23) (oi := ⟨_, _, _, _, _, _⟩) (v := ?_) rfl (by kernel_rfl) (by kernel_rfl) (by kernel_rfl) (fun _ _ _ h => h) (Or.inl ⟨by rfl, ?_⟩) (by assumption) ?_
        rotate_left
        · intro W hSW; go_simp; try with_reducible rfl
        try simp only [Act.put, List.setIfInBounds_toArray, List.set_cons_zero, List.set_cons_succ]
        refine wpAnyH_take (i := 24) (oi := ⟨_, _, _, _, _, _⟩) (v := ?_) rfl (by kernel_rfl) (by kernel_rfl) (by kernel_rfl) (fun _ _ _ h => h) (Or.inl ⟨by rfl, ?_⟩) (by assumption) ?_
        rotate_left
        · intro W hSW; go_simp; try with_reducible rfl
        try simp only [Act.put, List.setIfInBounds_toArray, List.set_cons_zero, List.set_cons_succ]
        refine wpAnyH_take (i := 25) (oi := ⟨_, _, _, _, _, _⟩) (v := ?_) rfl (by kernel_rfl) (by kernel_rfl) (by kernel_rfl) (fun _ _ _ h => h) (Or.inl ⟨by rfl, ?_⟩) (by assumption) ?_
        rotate_left
        · intro W hSW; go_simp; try with_reducible rfl
        try simp only [Act.put, List.setIfInBounds_toArray, List.set_cons_zero, List.set_cons_succ]
        refine wpAnyH_take (i := 26) (oi := ⟨_, _, _, _, _, _⟩) (v := ?_) rfl (by kernel_rfl) (by kernel_rfl) (by kernel_rfl) (fun _ _ _ h => h) (Or.inl ⟨by rfl, ?_⟩) (by assumption) ?_
        rotate_left
        · intro W hSW; refine exec_load_int (.tmp 104) ?_ gRP 202 ?_ 2 ((hSW.cell (p := ⟨gRP, 202, none⟩) l1).trans k1) <;> rfl
        try simp only [Act.put, List.setIfInBounds_toArray, List.set_cons_zero, List.set_cons_succ]
        as_aux_lemma =>
          refine wpAnyH_take (i := 27) (oi := ⟨_, _, _, _, _, _⟩) (v := ?_) rfl (by kernel_rfl) (by kernel_rfl) (by kernel_rfl) (fun _ _ _ h => h) (Or.inl ⟨by rfl, ?_⟩) (by assumption) ?_
          rotate_left
          · intro W hSW; go_simp; try with_reducible rfl
          try simp only [Act.put, List.setIfInBounds_toArray, List.set_cons_zero, List.set_cons_succ]
          refine wpAnyH_take (i := 28) (oi := ⟨_, _, _, _, _, _⟩) (v := ?_) rfl (by kernel_rfl) (by kernel_rfl) (by kernel_rfl) (fun _ _ _ h => h) (Or.inl ⟨by rfl, ?_⟩) (by assumption) ?_
          rotate_left
          · intro W hSW; go_simp; try with_reducible rfl
          try simp only [Act.put, List.setIfInBounds_toArray, List.set_cons_zero, List.set_cons_succ]
          refine wpAnyH_take (i := 29) (oi := ⟨_, _, _, _, _, _⟩) (v := ?_) rfl (by kernel_rfl) (by kernel_rfl) (by kernel_rfl) (fun _ _ _ h => h) (Or.inl ⟨by rfl, ?_⟩) (by assumption) ?_
          rotate_left
          · intro W hSW; go_simp; try with_reducible rfl
          try simp only [Act.put, List.setIfInBounds_toArray, List.set_cons_zero, List.set_cons_succ]
          refine wpAnyH_take (i := 30) (oi := ⟨_, _, _, _, _, _⟩) (v := ?_) rfl (by kernel_rfl) (by kernel_rfl) (by kernel_rfl) (fun _ _ _ h => h) (Or.inl ⟨by rfl, ?_⟩) (by assumption) ?_
          rotate_left
          · intro W hSW; go_simp; try with_reducible rfl
          try simp only [Act.put, List.setIfInBounds_toArray, List.set_cons_zero, List.set_cons_succ]
          refine wpAnyH_take (i := 31) (oi := ⟨_, _, _, _, _, _⟩) (v := ?_) rfl (by kernel_rfl) (by kernel_rfl) (by kernel_rfl) (fun _ _ _ h => h) (Or.inl ⟨by rfl, ?_⟩) (by assumption) ?_
          rotate_left
          · intro W hSW; go_simp; try with_reducible rfl
          try simp only [Act.put, List.setIfInBounds_toArray, List.set_cons_zero, List.set_cons_succ]
          refine wpAnyH_take (i := 32) (oi := ⟨_, _, _, _, _, _⟩) (v := ?_) rfl (by kernel_rfl) (by kernel_rfl) (by kernel_rfl) (fun _ _ _ h => h) (Or.inl ⟨by rfl, ?_⟩) (by assumption) ?_
          rotate_left
          · intro W hSW; go_simp; try with_reducible rfl
          try simp only [Act.put, List.setIfInBounds_toArray, List.set_cons_zero, List.set_cons_succ]
          refine wpAnyH_take (i := 33) (oi := ⟨_, _, _, _, _, _⟩) (v := ?_) rfl (by kernel_rfl) (by kernel_rfl) (by kernel_rfl) (fun _ _ _ h => h) (Or.inl ⟨by rfl, ?_⟩) (by assumption) ?_
          rotate_left
          · intro W hSW; refine exec_load_int (.tmp 111) ?_ gRP 236 ?_ 1 ((hSW.cell (p := ⟨gRP, 236, none⟩) l1).trans k2) <;> rfl
          try simp only [Act.put, List.setIfInBounds_toArray, List.set_cons_zero, List.set_cons_succ]
          refine wpAnyH_take (i := 34) (oi := ⟨_, _, _, _, _, _⟩) (v := ?_) rfl (by kernel_rfl) (by kernel_rfl) (by kernel_rfl) (fun _ _ _ h => h) (Or.inl ⟨by rfl, ?_⟩) (by assumption) ?_
          rotate_left
          · intro W hSW; go_simp; try with_reducible rfl
          try simp only [Act.put, List.setIfInBounds_toArray, List.set_cons_zero, List.set_cons_succ]
          refine wpAnyH_take (i := 35) (oi := ⟨_, _, _, _, _, _⟩) (v := ?_) rfl (by kernel_rfl) (by kernel_rfl) (by kernel_rfl) (fun _ _ _ h => h) (Or.inl ⟨by rfl, ?_⟩) (by assumption) ?_
          rotate_left
          · intro W hSW; go_simp; try with_reducible rfl
          try simp only [Act.put, List.setIfInBounds_toArray, List.set_cons_zero, List.set_cons_succ]
          as_aux_lemma =>
            refine wpAnyH_take (i := 36) (oi := ⟨_, _, _, _, _, _⟩) (v := ?_) rfl (by kernel_rfl) (by kernel_rfl) (by kernel_rfl) (fun _ _ _ h => h) (Or.inl ⟨by rfl, ?_⟩) (by assumption) ?_
            rotate_left
            · intro W hSW; go_simp; try with_reducible rfl
            try simp only [Act.put, List.setIfInBounds_toArray, List.set_cons_zero, List.set_cons_succ]
            refine wpAnyH_take (i := 37) (oi := ⟨_, _, _, _, _, _⟩) (v := ?_) rfl (by kernel_rfl) (by kernel_rfl) (by kernel_rfl) (fun _ _ _ h => h) (Or.inl ⟨by rfl, ?_⟩) (by assumption) ?_
            rotate_left
            · intro W hSW; go_simp; try with_reducible rfl
            try simp only [Act.put, List.setIfInBounds_toArray, List.set_cons_zero, List.set_cons_succ]
            refine wpAnyH_take (i := 38) (oi := ⟨_, _, _, _, _, _⟩) (v := ?_) rfl (by kernel_rfl) (by kernel_rfl) (by kernel_rfl) (fun _ _ _ h => h) (Or.inl ⟨by rfl, ?_⟩) (by assumption) ?_
            rotate_left
            · intro W hSW; go_simp; try with_reducible rfl
            try simp only [Act.put, List.setIfInBounds_toArray, List.set_cons_zero, List.set_cons_succ]
            refine wpAnyH_take (i := 39) (oi := ⟨_, _, _, _, _, _⟩) (v := ?_) rfl (by kernel_rfl) (by kernel_rfl) (by kernel_rfl) (fun _ _ _ h => h) (Or.inl ⟨by rfl, ?_⟩) (by assumption) ?_
            rotate_left
            · intro W hSW; go_simp; try with_reducible rfl
            try simp only [Act.put, List.setIfInBounds_toArray, List.set_cons_zero, List.set_cons_succ]
            refine wpAnyH_take (i := 40) (oi := ⟨_, _, _, _, _, _⟩) (v := ?_) rfl (by kernel_rfl) (by kernel_rfl) (by kernel_rfl) (fun _ _ _ h => h) (Or.inl ⟨by rfl, ?_⟩) (by assumption) ?_
            rotate_left
            · intro W hSW; refine exec_load_int (.tmp 118) ?_ gRP 32 ?_ 3 ((hSW.cell (p := ⟨gRP, 32, none⟩) l1).trans k3) <;> rfl
            try simp only [Act.put, List.setIfInBounds_toArray, List.set_cons_zero, List.set_cons_succ]
            refine wpAnyH_take (i := 41) (oi := ⟨_, _, _, _, _, _⟩) (v := ?_) rfl (by kernel_rfl) (by kernel_rfl) (by kernel_rfl) (fun _ _ _ h => h) (Or.inl ⟨by rfl, ?_⟩) (by assumption) ?_
            rotate_left
            · intro W hSW; go_simp; try with_reducible rfl
            try simp only [Act.put, List.setIfInBounds_toArray, List.set_cons_zero, List.set_cons_succ]
            refine wpAnyH_take (i := 42) (oi := ⟨_, _, _, _, _, _⟩) (v := ?_) rfl (by kernel_rfl) (by kernel_rfl) (by kernel_rfl) (fun _ _ _ h => h) (Or.inl ⟨by rfl, ?_⟩) (by assumption) ?_
            rotate_left
            · intro W hSW; go_simp; try with_reducible rfl
            try simp only [Act.put, List.setIfInBounds_toArray, List.set_cons_zero, List.set_cons_succ]
            refine wpAnyH_take (i := 43) (oi := ⟨_, _, _, _, _, _⟩) (v := ?_) rfl (by kernel_rfl) (by kernel_rfl) (by kernel_rfl) (fun _ _ _ h => h) (Or.inl ⟨by rfl, ?_⟩) (by assumption) ?_
            rotate_left
            · intro W hSW; go_simp; try with_reducible rfl
            try simp only [Act.put, List.setIfInBounds_toArray, List.set_cons_zero, List.set_cons_succ]
            refine wpAnyH_take (i := 44) (oi := ⟨_, _, _, _, _, _⟩) (v := ?_) rfl (by kernel_rfl) (by kernel_rfl) (by kernel_rfl) (fun _ _ _ h => h) (Or.inl ⟨by rfl, ?_⟩) (by assumption) ?_
            rotate_left
            · intro W hSW; go_simp; try with_reducible rfl
            try simp only [Act.put, List.setIfInBounds_toArray, List.set_cons_zero, List.set_cons_succ]
            as_aux_lemma =>
              refine wpAnyH_take (i := 45) (oi := ⟨_, _, _, _, _, _⟩) (v := ?_) rfl (by kernel_rfl) (by kernel_rfl) (by kernel_rfl) (fun _ _ _ h => h) (Or.inl ⟨by rfl, ?_⟩) (by assumption) ?_
              rotate_left
              · intro W hSW; go_simp; try with_reducible rfl
              try simp only [Act.put, List.setIfInBounds_toArray, List.set_cons_zero, List.set_cons_succ]
              refine wpAnyH_take (i := 46) (oi := ⟨_, _, _, _, _, _⟩) (v := ?_) rfl (by kernel_rfl) (by kernel_rfl) (by kernel_rfl) (fun _ _ _ h => h) (Or.inl ⟨by rfl, ?_⟩) (by assumption) ?_
              rotate_left
              · intro W hSW; go_simp; try with_reducible rfl
              try simp only [Act.put, List.setIfInBounds_toArray, List.set_cons_zero, List.set_cons_succ]
              refine wpAnyH_take (i := 47) (oi := ⟨_, _, _, _, _, _⟩) (v := ?_) rfl (by kernel_rfl) (by kernel_rfl) (by kernel_rfl) (fun _ _ _ h => h) (Or.inl ⟨by rfl, ?_⟩) (by assumption) ?_
              rotate_left
              · intro W hSW; go_simp; try with_reducible rfl
              try simp only [Act.put, List.setIfInBounds_toArray, List.set_cons_zero, List.set_cons_succ]
              refine wpAnyH_take (i := 48) (oi := ⟨_, _, _, _, _, _⟩) (v := ?_) rfl (by kernel_rfl) (by kernel_rfl) (by kernel_rfl) (fun _ _ _ h => h) (Or.inl ⟨by rfl, ?_⟩) (by assumption) ?_
              rotate_left
              · intro W hSW; go_simp; try with_reducible rfl
              try simp only [Act.put, List.setIfInBounds_toArray, List.set_cons_zero, List.set_cons_succ]
              refine wpAnyH_take (i := 49) (oi := ⟨_, _, _, _, _, _⟩) (v := ?_) rfl (by kernel_rfl) (by kernel_rfl) (by kernel_rfl) (fun _ _ _ h => h) (Or.inl ⟨by rfl, ?_⟩) (by assumption) ?_
              rotate_left
              · intro W hSW; go_simp; try with_reducible rfl
              try simp only [Act.put, List.setIfInBounds_toArray, List.set_cons_zero, List.set_cons_succ]
              refine wpAnyH_take (i := 50) (oi := ⟨_, _, _, _, _, _⟩) (v := ?_) rfl (by kernel_rfl) (by kernel_rfl) (by kernel_rfl) (fun _ _ _ h => h) (Or.inl ⟨by rfl, ?_⟩) (by assumption) ?_
              rotate_left
              · intro W hSW; go_simp; try with_reducible rfl
              try simp only [Act.put, List.setIfInBounds_toArray, List.set_cons_zero, List.set_cons_succ]
              refine wpAnyH_take (i := 51) (oi := ⟨_, _, _, _, _, _⟩) (v := ?_) rfl (by kernel_rfl) (by kernel_rfl) (by kernel_rfl) (fun _ _ _ h => h) (Or.inl ⟨by rfl, ?_⟩) (by assumption) ?_
              rotate_left
              · intro W hSW; go_simp; try with_reducible rfl
              try simp only [Act.put, List.setIfInBounds_toArray, List.set_cons_zero, List.set_cons_succ]
              refine wpAnyH_take (i := 52) (oi := ⟨_, _, _, _, _, _⟩) (v := ?_) rfl (by kernel_rfl) (by kernel_rfl) (by kernel_rfl) (fun _ _ _ h => h) (Or.inl ⟨by rfl, ?_⟩) (by assumption) ?_
              rotate_left
              · intro W hSW; go_simp; try with_reducible rfl
              try simp only [Act.put, List.setIfInBounds_toArray, List.set_cons_zero, List.set_cons_succ]
              refine wpAnyH_take (i := 53) (oi := ⟨_, _, _, _, _, _⟩) (v := ?_) rfl (by kernel_rfl) (by kernel_rfl) (by kernel_rfl) (fun _ _ _ h => h) (Or.inl ⟨by rfl, ?_⟩) (by assumption) ?_
              rotate_left
              · intro W hSW; go_simp; try with_reducible rfl
              try simp only [Act.put, List.setIfInBounds_toArray, List.set_cons_zero, List.set_cons_succ]
              as_aux_lemma =>
                refine wpAnyH_take (i := 54) (oi := ⟨_, _, _, _, _, _⟩) (v := ?_) rfl (by kernel_rfl) (by kernel_rfl) (by kernel_rfl) (fun _ _ _ h => h) (Or.inl ⟨by rfl, ?_⟩) (by assumption) ?_
                rotate_left
                · intro W hSW; go_simp; try with_reducible rfl
                try simp only [Act.put, List.setIfInBounds_toArray, List.set_cons_zero, List.set_cons_succ]
                refine wpAnyH_take (i := 55) (oi := ⟨_, _, _, _, _, _⟩) (v := ?_) rfl (by kernel_rfl) (by kernel_rfl) (by kernel_rfl) (fun _ _ _ h => h) (Or.inl ⟨by rfl, ?_⟩) (by assumption) ?_
                rotate_left
                · intro W hSW; go_simp; try with_reducible rfl
                try simp only [Act.put, List.setIfInBounds_toArray, List.set_cons_zero, List.set_cons_succ]
                refine wpAnyH_take (i := 56) (oi := ⟨_, _, _, _, _, _⟩) (v := ?_) rfl (by kernel_rfl) (by kernel_rfl) (by kernel_rfl) (fun _ _ _ h => h) (Or.inl ⟨by rfl, ?_⟩) (by assumption) ?_
                rotate_left
                · intro W hSW; go_simp; try with_reducible rfl
                try simp only [Act.put, List.setIfInBounds_toArray, List.set_cons_zero, List.set_cons_succ]
                refine wpAnyH_take (i := 57) (oi := ⟨_, _, _, _, _, _⟩) (v := ?_) rfl (by kernel_rfl) (by kernel_rfl) (by kernel_rfl) (fun _ _ _ h => h) (Or.inl ⟨by rfl, ?_⟩) (by assumption) ?_
                rotate_left
                · intro W hSW; go_simp; try with_reducible rfl
                try simp only [Act.put, List.setIfInBounds_toArray, List.set_cons_zero, List.set_cons_succ]
                refine wpAnyH_take (i := 58) (oi := ⟨_, _, _, _, _, _⟩) (v := ?_) rfl (by kernel_rfl) (by kernel_rfl) (by kernel_rfl) (fun _ _ _ h => h) (Or.inl ⟨by rfl, ?_⟩) (by assumption) ?_
                rotate_left
                · intro W hSW; go_simp; try with_reducible rfl
                try simp only [Act.put, List.setIfInBounds_toArray, List.set_cons_zero, List.set_cons_succ]
                refine wpAnyH_take (i := 59) (oi := ⟨_, _, _, _, _, _⟩) (v := ?_) rfl (by kernel_rfl) (by kernel_rfl) (by kernel_rfl) (fun _ _ _ h => h) (Or.inl ⟨by rfl, ?_⟩) (by assumption) ?_
                rotate_left
                · intro W hSW; go_simp; try with_reducible rfl
                try simp only [Act.put, List.setIfInBounds_toArray, List.set_cons_zero, List.set_cons_succ]
                refine wpAnyH_take (i := 60) (oi := ⟨_, _, _, _, _, _⟩) (v := ?_) rfl (by kernel_rfl) (by kernel_rfl) (by kernel_rfl) (fun _ _ _ h => h) (Or.inl ⟨by rfl, ?_⟩) (by assumption) ?_
                rotate_left
                · intro W hSW; go_simp; try with_reducible rfl
                try simp only [Act.put, List.setIfInBounds_toArray, List.set_cons_zero, List.set_cons_succ]
                refine wpAnyH_take (i := 61) (oi := ⟨_, _, _, _, _, _⟩) (v := ?_) rfl (by kernel_rfl) (by kernel_rfl) (by kernel_rfl) (fun _ _ _ h => h) (Or.inl ⟨by rfl, ?_⟩) (by assumption) ?_
                rotate_left
                · intro W hSW; go_simp; try with_reducible rfl
                try simp only [Act.put, List.setIfInBounds_toArray, List.set_cons_zero, List.set_cons_succ]
                refine wpAnyH_take (i := 62) (oi := ⟨_, _, _, _, _, _⟩) (v := ?_) rfl (by kernel_rfl) (by kernel_rfl) (by kernel_rfl) (fun _ _ _ h => h) (Or.inl ⟨by rfl, ?_⟩) (by assumption) ?_
                rotate_left
                · intro W hSW; go_simp; try with_reducible rfl
                try simp only [Act.put, List.setIfInBounds_toArray, List.set_cons_zero, List.set_cons_succ]
                as_aux_lemma =>
                  refine wpAnyH_take (i := 63) (oi := ⟨_, _, _, _, _, _⟩) (v := ?_) rfl (by kernel_rfl) (by kernel_rfl) (by kernel_rfl) (fun _ _ _ h => h) (Or.inl ⟨by rfl, ?_⟩) (by assumption) ?_
                  rotate_left
                  · intro W hSW; go_simp; try with_reducible rfl
                  try simp only [Act.put, List.setIfInBounds_toArray, List.set_cons_zero, List.set_cons_succ]
                  refine wpAnyH_take (i := 64) (oi := ⟨_, _, _, _, _, _⟩) (v := ?_) rfl (by kernel_rfl) (by kernel_rfl) (by kernel_rfl) (fun _ _ _ h => h) (Or.inl ⟨by rfl, ?_⟩) (by assumption) ?_
                  rotate_left
                  · intro W hSW; go_simp; try with_reducible rfl
                  try simp only [Act.put, List.setIfInBounds_toArray, List.set_cons_zero, List.set_cons_succ]
                  refine wpAnyH_take (i := 65) (oi := ⟨_, _, _, _, _, _⟩) (v := ?_) rfl (by kernel_rfl) (by kernel_rfl) (by kernel_rfl) (fun _ _ _ h => h) (Or.inl ⟨by rfl, ?_⟩) (by assumption) ?_
                  rotate_left
                  · intro W hSW; go_simp; try with_reducible rfl
                  try simp only [Act.put, List.setIfInBounds_toArray, List.set_cons_zero, List.set_cons_succ]
                  refine wpAnyH_take (i := 66) (oi := ⟨_, _, _, _, _, _⟩) (v := ?_) rfl (by kernel_rfl) (by kernel_rfl) (by kernel_rfl) (fun _ _ _ h => h) (Or.inl ⟨by rfl, ?_⟩) (by assumption) ?_
                  rotate_left
                  · intro W hSW; refine exec_load_int (.tmp 144) ?_ gRQ 202 ?_ 1 ((hSW.cell (p := ⟨gRQ, 202, none⟩) l2).trans k4) <;> rfl
                  try simp only [Act.put, List.setIfInBounds_toArray, List.set_cons_zero, List.set_cons_succ]
                  refine wpAnyH_take (i := 67) (oi := ⟨_, _, _, _, _, _⟩) (v := ?_) rfl (by kernel_rfl) (by kernel_rfl) (by kernel_rfl) (fun _ _ _ h => h) (Or.inl ⟨by rfl, ?_⟩) (by assumption) ?_
                  rotate_left
                  · intro W hSW; go_simp; try with_reducible rfl
                  try simp only [Act.put, List.setIfInBounds_toArray, List.set_cons_zero, List.set_cons_succ]
                  refine wpAnyH_take (i := 68) (oi := ⟨_, _, _, _, _, _⟩) (v := ?_) rfl (by kernel_rfl) (by kernel_rfl) (by kernel_rfl) (fun _ _ _ h => h) (Or.inl ⟨by rfl, ?_⟩) (by assumption) ?_
                  rotate_left
                  · intro W hSW; go_simp; try with_reducible rfl
                  try simp only [Act.put, List.setIfInBounds_toArray, List.set_cons_zero, List.set_cons_succ]
                  refine wpAnyH_take (i := 69) (oi := ⟨_, _, _, _, _, _⟩) (v := ?_) rfl (by kernel_rfl) (by kernel_rfl) (by kernel_rfl) (fun _ _ _ h => h) (Or.inl ⟨by rfl, ?_⟩) (by assumption) ?_
                  rotate_left
                  · intro W hSW; go_simp; try with_reducible rfl
                  try simp only [Act.put, List.setIfInBounds_toArray, List.set_cons_zero, List.set_cons_succ]
                  refine wpAnyH_take (i := 70) (oi := ⟨_, _, _, _, _, _⟩) (v := ?_) rfl (by kernel_rfl) (by kernel_rfl) (by kernel_rfl) (fun _ _ _ h => h) (Or.inl ⟨by rfl, ?_⟩) (by assumption) ?_
                  rotate_left
                  · intro W hSW; go_simp; try with_reducible rfl
                  try simp only [Act.put, List.setIfInBounds_toArray, List.set_cons_zero, List.set_cons_succ]
                  refine wpAnyH_take (i := 71) (oi := ⟨_, _, _, _, _, _⟩) (v := ?_) rfl (by kernel_rfl) (by kernel_rfl) (by kernel_rfl) (fun _ _ _ h => h) (Or.inl ⟨by rfl, ?_⟩) (by assumption) ?_
                  rotate_left
                  · intro W hSW; go_simp; try with_reducible rfl
                  try simp only [Act.put, List.setIfInBounds_toArray, List.set_cons_zero, List.set_cons_succ]
                  as_aux_lemma =>
                    refine wpAnyH_take (i := 72) (oi := ⟨_, _, _, _, _, _⟩) (v := ?_) rfl (by kernel_rfl) (by kernel_rfl) (by kernel_rfl) (fun _ _ _ h => h) (Or.inl ⟨by rfl, ?_⟩) (by assumption) ?_
                    rotate_left
                    · intro W hSW; go_simp; try with_reducible rfl
                    try simp only [Act.put, List.setIfInBounds_toArray, List.set_cons_zero, List.set_cons_succ]
                    refine wpAnyH_take (i := 73) (oi := ⟨_, _, _, _, _, _⟩) (v := ?_) rfl (by kernel_rfl) (by kernel_rfl) (by kernel_rfl) (fun _ _ _ h => h) (Or.inl ⟨by rfl, ?_⟩) (by assumption) ?_
                    rotate_left
                    · intro W hSW; refine exec_load_int (.tmp 151) ?_ gRQ 236 ?_ 3 ((hSW.cell (p := ⟨gRQ, 236, none⟩) l2).trans k5) <;> rfl
                    try simp only [Act.put, List.setIfInBounds_toArray, List.set_cons_zero, List.set_cons_succ]
                    refine wpAnyH_take (i := 74) (oi := ⟨_, _, _, _, _, _⟩) (v := ?_) rfl (by kernel_rfl) (by kernel_rfl) (by kernel_rfl) (fun _ _ _ h => h) (Or.inl ⟨by rfl, ?_⟩) (by assumption) ?_
                    rotate_left
                    · intro W hSW; go_simp; try with_reducible rfl
                    try simp only [Act.put, List.setIfInBounds_toArray, List.set_cons_zero, List.set_cons_succ]
                    refine wpAnyH_take (i := 75) (oi := ⟨_, _, _, _, _, _⟩) (v := ?_) rfl (by kernel_rfl) (by kernel_rfl) (by kernel_rfl) (fun _ _ _ h => h) (Or.inl ⟨by rfl, ?_⟩) (by assumption) ?_
                    rotate_left
                    · intro W hSW; go_simp; try with_reducible rfl
                    try simp only [Act.put, List.setIfInBounds_toArray, List.set_cons_zero, List.set_cons_succ]
                    refine wpAnyH_take (i := 76) (oi := ⟨_, _, _, _, _, _⟩) (v := ?_) rfl (by kernel_rfl) (by kernel_rfl) (by kernel_rfl) (fun _ _ _ h => h) (Or.inl ⟨by rfl, ?_⟩) (by assumption) ?_
                    rotate_left
                    · intro W hSW; go_simp; try with_reducible rfl
                    try simp only [Act.put, List.setIfInBounds_toArray, List.set_cons_zero, List.set_cons_succ]
                    refine wpAnyH_take (i := 77) (oi := ⟨_, _, _, _, _, _⟩) (v := ?_) rfl (by kernel_rfl) (by kernel_rfl) (by kernel_rfl) (fun _ _ _ h => h) (Or.inl ⟨by rfl, ?_⟩) (by assumption) ?_
                    rotate_left
                    · intro W hSW; go_simp; try with_reducible rfl
                    try simp only [Act.put, List.setIfInBounds_toArray, List.set_cons_zero, List.set_cons_succ]
                    refine wpAnyH_take (i := 78) (oi := ⟨_, _, _, _, _, _⟩) (v := ?_) rfl (by kernel_rfl) (by kernel_rfl) (by kernel_rfl) (fun _ _ _ h => h) (Or.inl ⟨by rfl, ?_⟩) (by assumption) ?_
                    rotate_left
                    · intro W hSW; go_simp; try with_reducible rfl
                    try simp only [Act.put, List.setIfInBounds_toArray, List.set_cons_zero, List.set_cons_succ]
                    refine wpAnyH_take (i := 79) (oi := ⟨_, _, _, _, _, _⟩) (v := ?_) rfl (by kernel_rfl) (by kernel_rfl) (by kernel_rfl) (fun _ _ _ h => h) (Or.inl ⟨by rfl, ?_⟩) (by assumption) ?_
                    rotate_left
                    · intro W hSW; go_simp; try with_reducible rfl
                    try simp only [Act.put, List.setIfInBounds_toArray, List.set_cons_zero, List.set_cons_succ]
                    refine wpAnyH_take (i := 80) (oi := ⟨_, _, _, _, _, _⟩) (v := ?_) rfl (by kernel_rfl) (by kernel_rfl) (by kernel_rfl) (fun _ _ _ h => h) (Or.inl ⟨by rfl, ?_⟩) (by assumption) ?_
                    rotate_left
                    · intro W hSW; go_simp; try with_reducible rfl
                    try simp only [Act.put, List.setIfInBounds_toArray, List.set_cons_zero, List.set_cons_succ]
                    as_aux_lemma =>
                      refine wpAnyH_take (i := 81) (oi := ⟨_, _, _, _, _, _⟩) (v := ?_) rfl (by kernel_rfl) (by kernel_rfl) (by kernel_rfl) (fun _ _ _ h => h) (Or.inl ⟨by rfl, ?_⟩) (by assumption) ?_
                      rotate_left
                      · intro W hSW; refine exec_load_int (.tmp 159) ?_ gRX 32 ?_ 3 ((hSW.cell (p := ⟨gRX, 32, none⟩) l3).trans k6) <;> rfl
                      try simp only [Act.put, List.setIfInBounds_toArray, List.set_cons_zero, List.set_cons_succ]
                      refine wpAnyH_take (i := 82) (oi := ⟨_, _, _, _, _, _⟩) (v := ?_) rfl (by kernel_rfl) (by kernel_rfl) (by kernel_rfl) (fun _ _ _ h => h) (Or.inl ⟨by rfl, ?_⟩) (by assumption) ?_
                      rotate_left
                      · intro W hSW; go_simp; try with_reducible rfl
                      try simp only [Act.put, List.setIfInBounds_toArray, List.set_cons_zero, List.set_cons_succ]
                      refine wpAnyH_take (i := 83) (oi := ⟨_, _, _, _, _, _⟩) (v := ?_) rfl (by kernel_rfl) (by kernel_rfl) (by kernel_rfl) (fun _ _ _ h => h) (Or.inl ⟨by rfl, ?_⟩) (by assumption) ?_
                      rotate_left
                      · intro W hSW; go_simp; try with_reducible rfl
                      try simp only [Act.put, List.setIfInBounds_toArray, List.set_cons_zero, List.set_cons_succ]
                      refine wpAnyH_take (i := 84) (oi := ⟨_, _, _, _, _, _⟩) (v := ?_) rfl (by kernel_rfl) (by kernel_rfl) (by kernel_rfl) (fun _ _ _ h => h) (Or.inl ⟨by rfl, ?_⟩) (by assumption) ?_
                      rotate_left
                      · intro W hSW; go_simp; try with_reducible rfl
                      try simp only [Act.put, List.setIfInBounds_toArray, List.set_cons_zero, List.set_cons_succ]
                      refine wpAnyH_take (i := 85) (oi := ⟨_, _, _, _, _, _⟩) (v := ?_) rfl (by kernel_rfl) (by kernel_rfl) (by kernel_rfl) (fun _ _ _ h => h) (Or.inl ⟨by rfl, ?_⟩) (by assumption) ?_
                      rotate_left
                      · intro W hSW; go_simp; try with_reducible rfl
                      try simp only [Act.put, List.setIfInBounds_toArray, List.set_cons_zero, List.set_cons_succ]
                      refine wpAnyH_take (i := 86) (oi := ⟨_, _, _, _, _, _⟩) (v := ?_) rfl (by kernel_rfl) (by kernel_rfl) (by kernel_rfl) (fun _ _ _ h => h) (Or.inl ⟨by rfl, ?_⟩) (by assumption) ?_
                      rotate_left
                      · intro W hSW; go_simp; try with_reducible rfl
                      try simp only [Act.put, List.setIfInBounds_toArray, List.set_cons_zero, List.set_cons_succ]
                      refine wpAnyH_take (i := 87) (oi := ⟨_, _, _, _, _, _⟩) (v := ?_) rfl (by kernel_rfl) (by kernel_rfl) (by kernel_rfl) (fun _ _ _ h => h) (Or.inl ⟨by rfl, ?_⟩) (by assumption) ?_
                      rotate_left
                      · intro W hSW; go_simp; try with_reducible rfl
                      try simp only [Act.put, List.setIfInBounds_toArray, List.set_cons_zero, List.set_cons_succ]
                      refine wpAnyH_take (i := 88) (oi := ⟨_, _, _, _, _, _⟩) (v := ?_) rfl (by kernel_rfl) (by kernel_rfl) (by kernel_rfl) (fun _ _ _ h => h) (Or.inl ⟨by rfl, ?_⟩) (by assumption) ?_
                      rotate_left
                      · intro W hSW; go_simp; try with_reducible rfl
                      try simp only [Act.put, List.setIfInBounds_toArray, List.set_cons_zero, List.set_cons_succ]
                      refine wpAnyH_take (i := 89) (oi := ⟨_, _, _, _, _, _⟩) (v := ?_) rfl (by kernel_rfl) (by kernel_rfl) (by kernel_rfl) (fun _ _ _ h => h) (Or.inl ⟨by rfl, ?_⟩) (by assumption) ?_
                      rotate_left
                      · intro W hSW; refine exec_load_mid 23 (.tmp 167) ?_ gRS 0 ?_ (cells (adrB 5 2).1) _ (range_below q7 hSW l4) Try.underlying23 rfl HSz.out <;> rfl
                      try simp only [Act.put, List.setIfInBounds_toArray, List.set_cons_zero, List.set_cons_succ]
                      as_aux_lemma =>
                        refine wpAnyH_ready (rs := [90]) (by kernel_rfl) (by simp) ?_
                        refine AllReadyH.cons (o := ⟨_, _, _, _, _, _⟩) rfl (fun K hK => ?_) AllReadyH.nil
                        go_simp
                        refine (lat52 _).mono ?_
                        rintro e wx ⟨rfl, hb⟩
                        try simp only []
                        have hSwx := hSc.trans (hb.mono hSc.size)
                        refine hK.out _ _ hSwx (fun hHeld => ?_)
                        clear hK K hb hSc
                        have hSc := hSwx
                        clear hSwx
                        try simp only [Act.put, List.setIfInBounds_toArray, List.set_cons_zero, List.set_cons_succ]
                        refine wpAnyH_take (i := 91) (oi := ⟨_, _, _, _, _, _⟩) (v := .bool true) rfl (by kernel_rfl) (by kernel_rfl) (by kernel_rfl) (fun _ _ _ h => h) (Or.inl ⟨by rfl, ?_⟩) (by assumption) ?_
                        · intro W hSW; refine exec_eql_same 23 (.tmp 168) (.tmp 169) 23 ?_ Try.underlying23 Try.underlying5 (by kernel_rfl) (by kernel_rfl) ?_ ?_ (adrB 5 2).2 <;> rfl
                        try simp only [Act.put, List.setIfInBounds_toArray, List.set_cons_zero, List.set_cons_succ]
                        refine wpAnyH_take (i := 92) (oi := ⟨_, _, _, _, _, _⟩) (v := ?_) rfl (by kernel_rfl) (by kernel_rfl) (by kernel_rfl) (fun _ _ _ h => h) (Or.inl ⟨by rfl, ?_⟩) (by assumption) ?_
                        rotate_left
                        · intro W hSW; go_simp; try with_reducible rfl
                        try simp only [Act.put, List.setIfInBounds_toArray, List.set_cons_zero, List.set_cons_succ]
                        refine wpAnyH_take (i := 93) (oi := ⟨_, _, _, _, _, _⟩) (v := ?_) rfl (by kernel_rfl) (by kernel_rfl) (by kernel_rfl) (fun _ _ _ h => h) (Or.inl ⟨by rfl, ?_⟩) (by assumption) ?_
                        rotate_left
                        · intro W hSW; go_simp; try with_reducible rfl
                        try simp only [Act.put, List.setIfInBounds_toArray, List.set_cons_zero, List.set_cons_succ]
                        refine wpAnyH_take (i := 94) (oi := ⟨_, _, _, _, _, _⟩) (v := ?_) rfl (by kernel_rfl) (by kernel_rfl) (by kernel_rfl) (fun _ _ _ h => h) (Or.inl ⟨by rfl, ?_⟩) (by assumption) ?_
                        rotate_left
                        · intro W hSW; go_simp; try with_reducible rfl
                        try simp only [Act.put, List.setIfInBounds_toArray, List.set_cons_zero, List.set_cons_succ]
                        refine wpAnyH_take (i := 95) (oi := ⟨_, _, _, _, _, _⟩) (v := ?_) rfl (by kernel_rfl) (by kernel_rfl) (by kernel_rfl) (fun _ _ _ h => h) (Or.inl ⟨by rfl, ?_⟩) (by assumption) ?_
                        rotate_left
                        · intro W hSW; go_simp; try with_reducible rfl
                        try simp only [Act.put, List.setIfInBounds_toArray, List.set_cons_zero, List.set_cons_succ]
                        refine wpAnyH_take (i := 96) (oi := ⟨_, _, _, _, _, _⟩) (v := ?_) rfl (by kernel_rfl) (by kernel_rfl) (by kernel_rfl) (fun _ _ _ h => h) (Or.inl ⟨by rfl, ?_⟩) (by assumption) ?_
                        rotate_left
                        · intro W hSW; go_simp; try with_reducible rfl
                        try simp only [Act.put, List.setIfInBounds_toArray, List.set_cons_zero, List.set_cons_succ]
                        refine wpAnyH_take (i := 97) (oi := ⟨_, _, _, _, _, _⟩) (v := ?_) rfl (by kernel_rfl) (by kernel_rfl) (by kernel_rfl) (fun _ _ _ h => h) (Or.inl ⟨by rfl, ?_⟩) (by assumption) ?_
                        rotate_left
                        · intro W hSW; go_simp; try with_reducible rfl
                        try simp only [Act.put, List.setIfInBounds_toArray, List.set_cons_zero, List.set_cons_succ]
                        refine wpAnyH_take (i := 98) (oi := ⟨_, _, _, _, _, _⟩) (v := ?_) rfl (by kernel_rfl) (by kernel_rfl) (by kernel_rfl) (fun _ _ _ h => h) (Or.inl ⟨by rfl, ?_⟩) (by assumption) ?_
                        rotate_left
                        · intro W hSW; go_simp; try with_reducible rfl
                        try simp only [Act.put, List.setIfInBounds_toArray, List.set_cons_zero, List.set_cons_succ]
                        as_aux_lemma =>
                          refine wpAnyH_ready (rs := [99]) (by kernel_rfl) (by simp) ?_
                          refine AllReadyH.cons (o := ⟨_, _, _, _, _, _⟩) rfl (fun K hK => ?_) AllReadyH.nil
                          go_simp
                          refine (tlen_any _ bz gz cz 7 _ (hTz.below hSc hbz hgz)).mono ?_
                          rintro e ws99 ⟨rfl, rfl⟩
                          try simp only []
                          refine hK.out _ _ hSc (fun hHeld => ?_)
                          clear hK K
                          try simp only [Act.put, List.setIfInBounds_toArray, List.set_cons_zero, List.set_cons_succ]
                          refine wpAnyH_take (i := 100) (oi := ⟨_, _, _, _, _, _⟩) (v := ?_) rfl (by kernel_rfl) (by kernel_rfl) (by kernel_rfl) (fun _ _ _ h => h) (Or.inl ⟨by rfl, ?_⟩) (by assumption) ?_
                          rotate_left
                          · intro W hSW; go_simp; try with_reducible rfl
                          try simp only [Act.put, List.setIfInBounds_toArray, List.set_cons_zero, List.set_cons_succ]
                          refine wpAnyH_take (i := 101) (oi := ⟨_, _, _, _, _, _⟩) (v := ?_) rfl (by kernel_rfl) (by kernel_rfl) (by kernel_rfl) (fun _ _ _ h => h) (Or.inl ⟨by rfl, ?_⟩) (by assumption) ?_
                          rotate_left
                          · intro W hSW; go_simp; try with_reducible rfl
                          try simp only [Act.put, List.setIfInBounds_toArray, List.set_cons_zero, List.set_cons_succ]
                          refine wpAnyH_take (i := 102) (oi := ⟨_, _, _, _, _, _⟩) (v := ?_) rfl (by kernel_rfl) (by kernel_rfl) (by kernel_rfl) (fun _ _ _ h => h) (Or.inl ⟨by rfl, ?_⟩) (by assumption) ?_
                          rotate_left
                          · intro W hSW; go_simp; try with_reducible rfl
                          try simp only [Act.put, List.setIfInBounds_toArray, List.set_cons_zero, List.set_cons_succ]
                          refine wpAnyH_take (i := 103) (oi := ⟨_, _, _, _, _, _⟩) (v := ?_) rfl (by kernel_rfl) (by kernel_rfl) (by kernel_rfl) (fun _ _ _ h => h) (Or.inl ⟨by rfl, ?_⟩) (by assumption) ?_
                          rotate_left
                          · intro W hSW; go_simp; try with_reducible rfl
                          try simp only [Act.put, List.setIfInBounds_toArray, List.set_cons_zero, List.set_cons_succ]
                          as_aux_lemma =>
                            refine wpAnyH_ready (rs := [104]) (by kernel_rfl) (by simp) ?_
                            refine AllReadyH.cons (o := ⟨_, _, _, _, _, _⟩) rfl (fun K hK => ?_) AllReadyH.nil
                            go_simp
                            refine (tsize_any _ b g 7 7 _ (hT.below hSc hbl hgl)).mono ?_
                            rintro e ws104 ⟨rfl, rfl⟩
                            try simp only []
                            refine hK.out _ _ hSc (fun hHeld => ?_)
                            clear hK K
                            try simp only [Act.put, List.setIfInBounds_toArray, List.set_cons_zero, List.set_cons_succ]
                            refine wpAnyH_take (i := 105) (oi := ⟨_, _, _, _, _, _⟩) (v := ?_) rfl (by kernel_rfl) (by kernel_rfl) (by kernel_rfl) (fun _ _ _ h => h) (Or.inl ⟨by rfl, ?_⟩) (by assumption) ?_
                            rotate_left
                            · intro W hSW; go_simp; try with_reducible rfl
                            try simp only [Act.put, List.setIfInBounds_toArray, List.set_cons_zero, List.set_cons_succ]
                            refine wpAnyH_take (i := 106) (oi := ⟨_, _, _, _, _, _⟩) (v := ?_) rfl (by kernel_rfl) (by kernel_rfl) (by kernel_rfl) (fun _ _ _ h => h) (Or.inl ⟨by rfl, ?_⟩) (by assumption) ?_
                            rotate_left
                            · intro W hSW; go_simp; try with_reducible rfl
                            try simp only [Act.put, List.setIfInBounds_toArray, List.set_cons_zero, List.set_cons_succ]
                            refine wpAnyH_take (i := 107) (oi := ⟨_, _, _, _, _, _⟩) (v := ?_) rfl (by kernel_rfl) (by kernel_rfl) (by kernel_rfl) (fun _ _ _ h => h) (Or.inl ⟨by rfl, ?_⟩) (by assumption) ?_
                            rotate_left
                            · intro W hSW; go_simp; try with_reducible rfl
                            try simp only [Act.put, List.setIfInBounds_toArray, List.set_cons_zero, List.set_cons_succ]
                            refine wpAnyH_done (by kernel_rfl) ?_ _
                            go_wp2_with fail
                            go_ret
                            exact ⟨rfl, by rw [hN]; exact hBd.trans (hSc.mono hZd)⟩
end Go.Proofs.Ytkkllmjomdbndaa
