/-
  Layer 11: the contract of the law TableForgets.
-/
import Derived.Test.YtkkllmjomdbndaaPkTabOne
namespace Go.Proofs.Ytkkllmjomdbndaa
open Go.RowKit
set_option linter.unusedVariables false
set_option linter.unusedSimpArgs false

/-- A table l' that holds l and, beside it, the entries of S. -/
structure Both11 (n : Nat) (hn : 0 < n) (l l' S : List Ent) : Prop where
  tb : Tb n hn l'
  mem : ∀ x : Ent, x.count ≠ 0 → (x ∈ l' ↔ x ∈ l ∨ x ∈ S)
  real : ∀ x ∈ S, x.count ≠ 0
  dst : Dst S
  apart : ∀ x ∈ S, ∀ y ∈ l, y.count ≠ 0 → y.adr ≠ x.adr
section
variable {n : Nat} {hn : 0 < n} {l l' S l2 : List Ent} {e : Ent} {code : Int}
theorem Both11.start (h : Tb n hn l) : Both11 n hn l l [] := ⟨h, by simp, by simp, List.Pairwise.nil, by simp⟩
theorem Both11.put (h : Both11 n hn l l' S) (h1 : ∀ y ∈ l, y.count ≠ 0 → y.adr ≠ e.adr) (h2 : ∀ y ∈ S, y.adr ≠ e.adr) (hp : PutP n hn l' e code l2) : (code = 0 ∧ Both11 n hn l l2 (S ++ [e])) ∨ (code ≠ 0 ∧ Both11 n hn l l2 S) := by
  have hno : ∀ f ∈ l', f.count ≠ 0 → f.adr ≠ e.adr := fun f hf hc => by
    rcases (h.mem f hc).1 hf with h3 | h3
    · exact h1 f h3 hc
    · exact h2 f h3
  rcases hp.what with ⟨_, rfl, rfl⟩ | ⟨_, ⟨f, hf, hc, ha⟩, _⟩ | ⟨_, _, _, rfl, rfl⟩ | ⟨hok, _, _, rfl, _, hm⟩
  · exact .inr ⟨by decide, h⟩
  · exact absurd ha (hno f hf hc)
  · exact .inr ⟨by decide, h⟩
  · refine .inl ⟨rfl, hp.tb, fun x hx => ?_, fun x hx => ?_, Dst.snoc.2 ⟨h.dst, h2⟩, fun x hx y hy hc => ?_⟩
    · rw [hm x hx, h.mem x hx, List.mem_append, List.mem_singleton]
      constructor
      · rintro (⟨a | a, _⟩ | a)
        · exact .inl a
        · exact .inr (.inl a)
        · exact .inr (.inr a)
      · rintro (a | a | a)
        · exact .inl ⟨.inl a, h1 x a hx⟩
        · exact .inl ⟨.inr a, h2 x a⟩
        · exact .inr a
    · rcases List.mem_append.1 hx with a | a
      · exact h.real x a
      · rw [List.mem_singleton.1 a]; exact hok.real
    · rcases List.mem_append.1 hx with a | a
      · exact h.apart x a y hy hc
      · rw [List.mem_singleton.1 a]; exact h1 y hy hc
end
/-- Some of S are still there: those from the i-th on, counted from t, going round. -/
structure Rest11 (n : Nat) (hn : 0 < n) (l l' S : List Ent) (t i : Nat) : Prop where
  tb : Tb n hn l'
  mem : ∀ x : Ent, x.count ≠ 0 → (x ∈ l' ↔ x ∈ l ∨ ∃ j, i ≤ j ∧ j < S.length ∧ S[(j + t) % S.length]? = some x)
theorem mod_hit {m t q : Nat} (hq : q < m) : ∃ j, j < m ∧ (j + t) % m = q := by
  refine ⟨(q + (m - t % m)) % m, Nat.mod_lt _ (by omega), ?_⟩
  have h1 : t % m < m := Nat.mod_lt _ (by omega)
  have h2 := Nat.div_add_mod t m
  rw [Nat.mod_add_mod, show q + (m - t % m) + t = q + m * (t / m + 1) by rw [Nat.mul_add]; omega, Nat.add_mul_mod_self_left, Nat.mod_eq_of_lt hq]
theorem mod_apart {m t i j : Nat} (hij : i < j) (hj : j < m) : (j + t) % m ≠ (i + t) % m := by
  intro h
  have h1 := Nat.sub_mod_eq_zero_of_mod_eq h
  rw [show j + t - (i + t) = j - i by omega, Nat.mod_eq_of_lt (by omega)] at h1
  omega
section
variable {n : Nat} {hn : 0 < n} {l l' S l2 : List Ent} {t i : Nat} {code : Int} {e : Ent}
theorem Both11.rest (h : Both11 n hn l l' S) (t : Nat) : Rest11 n hn l l' S t 0 := by
  refine ⟨h.tb, fun x hx => ?_⟩
  rw [h.mem x hx]
  constructor
  · rintro (a | a)
    · exact .inl a
    · obtain ⟨q, hq, rfl⟩ := List.mem_iff_getElem.1 a
      obtain ⟨j, hj, he⟩ := mod_hit (t := t) hq
      exact .inr ⟨j, Nat.zero_le _, hj, by rw [he]; exact List.getElem?_eq_getElem hq⟩
  · rintro (a | ⟨j, _, _, a⟩)
    · exact .inl a
    · exact .inr (List.mem_of_getElem? a)
theorem Rest11.drop {l0 : List Ent} (hb : Both11 n hn l l0 S) (h : Rest11 n hn l l' S t i) (hi : i < S.length) (he : S[(i + t) % S.length]? = some e) (hp : DropP n hn l' e.adr code l2) : code = 0 ∧ Rest11 n hn l l2 S t (i + 1) := by
  have hm := List.mem_of_getElem? he
  have hc := hb.real e hm
  have hin : e ∈ l' := (h.mem e hc).2 (.inr ⟨i, Nat.le_refl _, hi, he⟩)
  rcases hp.what with ⟨_, h1, _, h2⟩ | ⟨h1, _⟩
  · refine ⟨h1, hp.tb, fun x hx => ?_⟩
    rw [h2 x hx, h.mem x hx]
    constructor
    · rintro ⟨a | ⟨j, hj, hjm, a⟩, ha⟩
      · exact .inl a
      · refine .inr ⟨j, ?_, hjm, a⟩
        rcases Nat.lt_or_ge i j with h3 | h3
        · exact h3
        · have : j = i := by omega
          subst this
          rw [he] at a
          cases a
          exact absurd rfl ha
    · rintro (a | ⟨j, hj, hjm, a⟩)
      · exact ⟨.inl a, hb.apart e hm x a hx⟩
      · refine ⟨.inr ⟨j, by omega, hjm, a⟩, fun hae => ?_⟩
        have h3 := hb.dst
        obtain ⟨q1, rfl⟩ := List.getElem?_eq_some_iff.1 a
        obtain ⟨q2, rfl⟩ := List.getElem?_eq_some_iff.1 he
        have h4 := mod_apart (m := S.length) (t := t) (show i < j by omega) hjm
        rcases Nat.lt_trichotomy ((j + t) % S.length) ((i + t) % S.length) with h5 | h5 | h5
        · exact List.pairwise_iff_getElem.1 h3 _ _ q1 q2 h5 hae
        · exact h4 h5
        · exact List.pairwise_iff_getElem.1 h3 _ _ q2 q1 h5 hae.symm
  · exact absurd rfl (h1 e hin hc)
theorem Rest11.done (hl : Tb n hn l) (h : Rest11 n hn l l' S t S.length) : l' = l :=
  Tb.one h.tb hl fun x hx => by
    rw [h.mem x hx]
    constructor
    · rintro (a | ⟨j, h1, h2, _⟩)
      · exact a
      · omega
    · exact .inl
end
theorem lies_butG {w w' : World} {B S g : Nat} {A : Option Addr} {cs : List Value} (h : LiesV w B A cs) (hB : But [g] S w w') (hS : B ≤ S) (hne : ∀ b o, A = some ⟨b, o, none⟩ → b ≠ g) : LiesV w' B A cs := fun hx => by
  obtain ⟨b, o, hA, hb, hc⟩ := h hx
  exact ⟨b, o, hA, hb, fun i v hi => (World.cell?_of_block (hB.block b (by omega) (by simp only [List.mem_singleton]; exact hne b o hA))).trans (hc i v hi)⟩
theorem range_butG {w w' : World} {b o B g : Nat} {cs : List Value} (h : w.rangeAt b o cs) (hB : But [g] B w w') (hb : b < B) (hL : b ≠ g) : w'.rangeAt b o cs := fun j v hj => (World.cell?_of_block (hB.block b hb (by simp only [List.mem_singleton]; exact hL))).trans (h j v hj)
theorem TabAt.low {w w' : World} {b g c n B : Nat} {l : List Ent} (h : TabAt w b g c n l) (hB : Below B w w') (h1 : b < B) (h2 : g < B) : TabAt w' b g c n l := h.below hB h1 h2

set_option maxRecDepth 100000 in
set_option maxHeartbeats 16000000 in
theorem forgets11_any (HW : Works11) (w : World) (B m1 c1 : Nat) (A1 : Option Addr) (ops : List Op11) (m2 c2 : Nat) (A2 : Option Addr) (ex : List Ent) (n turn : UInt8) (h1 : LiesV w B A1 (op11s ops)) (hm1 : m1 = ops.length) (hc1 : m1 ≤ c1) (h2 : LiesV w B A2 (ents ex)) (hm2 : m2 = ex.length) (hc2 : m2 ≤ c2) (hB : B ≤ w.heap.size) :
    Calls Try.prog 5 #[.int .u8 (n.toNat : Int), .slice A1 m1 c1, .slice A2 m2 c2, .int .u8 (turn.toNat : Int)] w fun e w' => e = .returned (.bool true) ∧ Below w.heap.size w w' := by
  have HL1 := Lib.hid h1
  have Hm1 := Lib.hid hm1
  have HL2 := Lib.hid h2
  have Hm2 := Lib.hid hm2
  have HW := Lib.hid HW
  clear h1 hm1 h2 hm2
  obtain ⟨N, hN⟩ : ∃ N, w.heap.size = N := ⟨_, rfl⟩
  rw [hN] at hB
  by_cases hbig : m1 ≤ 40 ∧ m2 ≤ 20
  · obtain ⟨hb1, hb2⟩ := hbig
    have hd1 : decide ((m1 : Int) > 40) = false := decide_eq_false (by omega)
    have hd2 : decide ((m2 : Int) > 20) = false := decide_eq_false (by omega)
    obtain ⟨s, hs⟩ : ∃ s, 1 + n.toNat % 24 = s := ⟨_, rfl⟩
    have hs0 : 0 < s := by omega
    have hs24 : s ≤ 24 := by omega
    have Hs := Lib.hid hs
    clear hs
    go_enter Try.func5, Try.ntmps5
    go_wp2_with fail
    refine (lsize_any w n).mono ?_
    rintro e w1 ⟨rfl, hw⟩
    rw [hw, Hs.out]
    clear hw w1
    go_wp2_with fail
    refine (lmade_any w B m1 c1 A1 ops s hs0 (by omega) HL1.out Hm1.out (by omega) (by omega) hc1).mono ?_
    rintro e w2 ⟨b, g, l', r, v, rfl, hT, hR, hK, hb, hg, hne, hB2⟩
    rw [hN] at hb hg hB2
    obtain ⟨Ar, cr, hvr, hcr, hlr⟩ := hR
    subst hvr
    have HnR : Hid (∀ b o, Ar = some ⟨b, o, none⟩ → b ≠ g) := fun b o h e => hne (by rw [h, e]; rfl)
    have HT := Lib.hid hT
    have HK := Lib.hid hK
    have HB2 := Lib.hid hB2
    have HL2r := Lib.hid hlr
    have hz2 : N ≤ w2.heap.size := by have := hB2.size; omega
    have hg2 : g < w2.heap.size := hT.glt
    have hb2' : b < w2.heap.size := hT.blt
    have hrl : r.length ≤ 900 := by have := hK.len; omega
    obtain ⟨rn, hrn⟩ : ∃ rn, r.length = rn := ⟨_, rfl⟩
    rw [hrn] at hcr hrl ⊢
    have Hrn := Lib.hid hrn
    clear hT hK hne hB2 hlr hrn
    go_wp2_with fail
    refine (tplaces_any w2 b g s s l' HT.out).mono ?_
    rintro e w3 ⟨A3, c3, rfl, hr3, hb3⟩
    obtain ⟨M, hM⟩ : ∃ M, w3.heap.size = M := ⟨_, rfl⟩
    have hMz : w2.heap.size ≤ M := by have := hb3.size; omega
    have HT3 : Hid (TabAt w3 b g s s l') := HT.out.later hb3
    have HR3 : Hid (LiesV w3 M Ar (ents r)) := (HL2r.out.below hb3).le hMz
    obtain ⟨Ap, cp, hvp, -, hcp, -, hlp⟩ := lies_ownE hr3
    injection hvp with e1 e2 e3
    subst e1 e3
    have HP3 : Hid (LiesV w3 M A3 (ents l')) := by rw [← hM]; exact hlp
    have HnP : Hid (∀ b o, A3 = some ⟨b, o, none⟩ → b ≠ g) := fun b o h e => by
      have := own_ge hr3 b (by rw [h]; rfl)
      omega
    have HB3 : Hid (Below N w w3) := HB2.out.trans (hb3.mono hz2)
    have hgM : g < M := by omega
    have hbM : b < M := by omega
    have hNM : N ≤ M := by omega
    have hzM : M ≤ w3.heap.size := by omega
    have HS3 : Hid (Both11 s hs0 l' l' []) := Both11.start HK.out.tb
    have HO3 : Hid (w3.ownsRow M 32 34 (.slice none 0 0) ([] : List Ent).length (ents [])) := World.ownsRow_nil _ _ _ _
    clear hr3 hb3 HT HB2 HL2r hlp e2 hM hMz hz2 hg2 hb2'
    go_wp2_with fail
    go_loopw [13, 14] (fun v13 v W => ∃ (k : Nat) (lc S : List Ent), k ≤ m2 ∧ S.length ≤ k ∧ v = .int .i64 k ∧ Hid (TabAt W b g s s lc) ∧ Hid (Both11 s hs0 l' lc S) ∧ Hid (W.ownsRow M 32 34 v13 S.length (ents S)) ∧ Hid (LiesV W M Ar (ents r)) ∧ Hid (LiesV W M A3 (ents l')) ∧ Hid (Below N w W) ∧ Hid (M ≤ W.heap.size)) (fun _ v _ => m2 - (intOf v).toNat)
    case atStart => exact ⟨0, l', [], Nat.zero_le _, Nat.le_refl _, rfl, HT3, HS3, HO3, HR3, HP3, HB3, hzM⟩
    case round =>
      obtain ⟨k, lc, S, hk, hSk, rfl, HT, HS, HO, HR, HP, HB, HZ⟩ := hrel
      clear HT3 HS3 HO3 HR3 HP3 HB3 hzM
      have hz := HZ.out
      obtain ⟨Ai, Ni, ci, hvi, hni, hci⟩ : ∃ A n' c, u13 = .slice A n' c ∧ n' = S.length ∧ n' ≤ c := by
        obtain ⟨A, c, h1, h2, h3, _, _⟩ := lies_ownE HO.out
        exact ⟨A, _, c, h1, rfl, h3⟩
      subst hvi
      have HniS := Lib.hid hni
      have hNi : Ni ≤ k := by omega
      have hk20 : k ≤ 20 := by omega
      clear hni hSk
      by_cases hlt : k < m2
      · have hlt' : (k : Int) < (m2 : Int) := by omega
        have hk0 : (0 : Int) ≤ (k : Int) := by omega
        obtain ⟨x, hx⟩ : ∃ x, ex[k]? = some x := ⟨_, List.getElem?_eq_getElem (by rw [← Hm2.out]; exact hlt)⟩
        obtain ⟨bx, px, hA, hbx, hrx⟩ := lies_ent (HL2.out.below (HB.out.mono hB)) hx
        subst hA
        have Hrx := Lib.hid hrx
        have Hra := Lib.hid (adr_of hrx)
        have Hsx := Lib.hid (ent_size x)
        have HszA := Lib.hid (adr_size x.adr)
        have hbg : bx ≠ g := by omega
        clear hx hrx
        go_wp2_with ((with_reducible refine at_load 23 ?_); refine wpList_load_mid rfl 23 _ rfl bx (px + k * 34) rfl (cells x.adr.1) _ Hra.out Try.underlying23 rfl HszA.out ?_)
        refine (rfind_any wr M rn cr Ar r x.adr HR.out Hrn.out.symm hz (by omega) hcr).mono ?_
        rintro e w4 ⟨⟨kk, rfl, hf⟩, hb4⟩
        have HT4 : Hid (TabAt w4 b g s s lc) := HT.out.later hb4
        have HO4 : Hid (w4.ownsRow M 32 34 (.slice Ai Ni ci) S.length (ents S)) := own_below HO.out hb4
        have HR4 : Hid (LiesV w4 M Ar (ents r)) := HR.out.below (hb4.mono hz)
        have HP4 : Hid (LiesV w4 M A3 (ents l')) := HP.out.below (hb4.mono hz)
        have HB4 : Hid (Below N w w4) := HB.out.trans (hb4.mono (by omega))
        have hz4 : M ≤ w4.heap.size := by have := hb4.size; omega
        have Hrx4 := Lib.hid (range_below Hrx.out hb4 (show bx < wr.heap.size by omega))
        have Hra4 := Lib.hid (adr_of Hrx4.out)
        clear hb4 HT HO HR HP HB HZ Hrx Hra hz
        rcases hf with ⟨k1, f, rfl, _, _⟩ | ⟨rfl, hno⟩
        · have hdk : decide ((k1 : Int) < 0) = false := decide_eq_false (by omega)
          go_wp2_with fail
          go_roundw
          case rel => exact ⟨k + 1, lc, S, by omega, by have := HniS.out; omega, by go_num, HT4, HS, HO4, HR4, HP4, HB4, hz4⟩
          case measure => simp [intOf]; omega
        · have Hno : Hid (∀ y ∈ l', y.count ≠ 0 → y.adr ≠ x.adr) := fun y hy hc => hno y ((HK.out.mem y hc).1 hy)
          clear hno
          obtain ⟨A5, c5, hv5, -, -, -, hl5⟩ := lies_ownE HO4.out
          injection hv5 with e1 e2 e3
          subst e1 e3
          have HLi := Lib.hid hl5
          clear hl5 e2
          go_wp2_with ((with_reducible refine at_loadG 23 ?_); refine wpList_load_midG rfl 23 _ rfl bx (px + k * 34) rfl (cells x.adr.1) _ Hra4.out Try.underlying23 rfl HszA.out ?_)
          refine (rfind_any w4 w4.heap.size Ni ci Ai S x.adr HLi.out HniS.out (Nat.le_refl _) (by omega) hci).mono ?_
          rintro e w5 ⟨⟨kk, rfl, hf⟩, hb5⟩
          have HT5 : Hid (TabAt w5 b g s s lc) := HT4.out.later hb5
          have HO5 : Hid (w5.ownsRow M 32 34 (.slice Ai Ni ci) S.length (ents S)) := own_below HO4.out hb5
          have HR5 : Hid (LiesV w5 M Ar (ents r)) := HR4.out.below (hb5.mono hz4)
          have HP5 : Hid (LiesV w5 M A3 (ents l')) := HP4.out.below (hb5.mono hz4)
          have HB5 : Hid (Below N w w5) := HB4.out.trans (hb5.mono (by omega))
          have hz5 : M ≤ w5.heap.size := by have := hb5.size; omega
          have Hrx5 := Lib.hid (range_below Hrx4.out hb5 (show bx < w4.heap.size by omega))
          clear hb5 HT4 HO4 HR4 HP4 HB4 HLi Hrx4 Hra4 hz4
          rcases hf with ⟨k1, f, rfl, _, _⟩ | ⟨rfl, hno⟩
          · have hdk : decide ((k1 : Int) < 0) = false := decide_eq_false (by omega)
            go_wp2_with fail
            go_roundw
            case rel => exact ⟨k + 1, lc, S, by omega, by have := HniS.out; omega, by go_num, HT5, HS, HO5, HR5, HP5, HB5, hz5⟩
            case measure => simp [intOf]; omega
          · have Hno2 := Lib.hid hno
            clear hno
            go_wp2_with ((with_reducible refine at_loadG 32 ?_); refine wpList_load_midG rfl 32 _ rfl bx (px + k * 34) rfl x.cs _ Hrx5.out Try.underlying32 rfl Hsx.out ?_)
            refine (tput_any w5 b g s s hs0 lc HT5.out HS.out.tb x).mono ?_
            rintro e w6 ⟨code, l6, rfl, hT6, hp6, hB6⟩
            have HT6 := Lib.hid hT6
            have hnO : (Value.slice Ai Ni ci).ownBlock ≠ some g := fun e => by have : M ≤ g := own_ge HO5.out g e; omega
            have HO6 : Hid (w6.ownsRow M 32 34 (.slice Ai Ni ci) S.length (ents S)) := own_but HO5.out hB6 (fun k e => ⟨own_lt HO5.out e, fun h => hnO (by rw [List.mem_singleton.1 h] at e; exact e)⟩)
            have HR6 : Hid (LiesV w6 M Ar (ents r)) := lies_butG HR5.out hB6 hz5 HnR.out
            have HP6 : Hid (LiesV w6 M A3 (ents l')) := lies_butG HP5.out hB6 hz5 HnP.out
            have HB6 : Hid (Below N w w6) := HB5.out.trans ((hB6.less (by omega)).below (fun k hk => by rw [List.mem_singleton.1 hk]; exact hg))
            have hz6 : M ≤ w6.heap.size := by have := hB6.size; omega
            have Hrx6 := Lib.hid (range_butG Hrx5.out hB6 (show bx < w5.heap.size by omega) hbg)
            rcases HS.out.put Hno.out Hno2.out hp6 with ⟨rfl, hS6⟩ | ⟨hcode, hS6⟩
            · have HS6 := Lib.hid hS6
              clear hT6 hp6 hB6 hnO HT5 HO5 HR5 HP5 HB5 Hrx5 HS hS6 hz5
              have HlenS : Hid (S.length = Ni) := HniS.out.symm
              go_wp2_with (first
                | ((with_reducible refine at_load 32 ?_); refine wpList_load_mid rfl 32 _ rfl bx (px + k * 34) rfl x.cs _ Hrx6.out Try.underlying32 rfl Hsx.out ?_)
                | ((with_reducible refine at_buildSlice 26 ?_); refine wpList_buildSlice_oneV rfl 26 32 _ rfl x.cs rfl Try.underlying26 Try.infoE (Ent.cs_length _) (by decide) (by decide) ?_; intro w7 hr7 hb7 hs7; have HO7 := Lib.hid (own_below HO6.out hb7))
                | (at_builtin; refine wpList_append_one rfl _ _ 26 rfl M 32 Try.underlying26 Try.infoE rfl (by decide) _ _ _ rfl HO7.out _ x.cs rfl hr7 (Ent.cs_length _) (Ent.one _) (by have := HlenS.out; unfold maxLen; omega) (by have := HlenS.out; omega) (by omega) ?_; intro v8 w8 hown8 hg8 hwh8; have HO8 : Hid (w8.ownsRow M 32 34 v8 (S ++ [x]).length (ents (S ++ [x]))) := (by rw [List.length_append, ents_snoc]; exact hown8); have hb8 : Below M w6 w8 := (hb7.mono hz6).grown hg8 (by omega) (fun q e => own_ge HO7.out q e)))
              have HT8 : Hid (TabAt w8 b g s s l6) := HT6.out.below hb8 hbM hgM
              have HR8 : Hid (LiesV w8 M Ar (ents r)) := HR6.out.below hb8
              have HP8 : Hid (LiesV w8 M A3 (ents l')) := HP6.out.below hb8
              have HB8 : Hid (Below N w w8) := HB6.out.trans (hb8.mono hNM)
              have hz8 : M ≤ w8.heap.size := by have := hb8.size; omega
              have hlen8 : (S ++ [x]).length ≤ k + 1 := by rw [List.length_append, HlenS.out, List.length_singleton]; omega
              clear hr7 hb7 hs7 HO7 hown8 hg8 hwh8 hb8 HT6 HR6 HP6 HB6 HO6
              go_roundw
              case rel => exact ⟨k + 1, l6, S ++ [x], by omega, hlen8, by go_num, HT8, HS6, HO8, HR8, HP8, HB8, hz8⟩
              case measure => simp [intOf]; omega
            · have HS6 := Lib.hid hS6
              have hdc : (code == 0) = false := by rw [beq_eq_false_iff_ne]; exact hcode
              clear hT6 hp6 hB6 hnO HT5 HO5 HR5 HP5 HB5 Hrx5 HS hS6 hz5
              go_wp2_with fail
              go_roundw
              case rel => exact ⟨k + 1, l6, S, by omega, by have := HniS.out; omega, by go_num, HT6, HS6, HO6, HR6, HP6, HB6, hz6⟩
              case measure => simp [intOf]; omega
      · obtain rfl : k = m2 := by omega
        have HR0 := Lib.hid (HS.out.rest turn.toNat)
        have hturn := turn.toNat_lt
        have hNi20 : Ni ≤ 20 := by omega
        have HlenS : Hid (S.length = Ni) := HniS.out.symm
        have HRow : Hid (RowE wr (.slice Ai Ni ci) S) := RowE.own HO.out
        obtain ⟨A5, c5, hv5, -, -, -, hl5⟩ := lies_ownE HO.out
        injection hv5 with e1 e2 e3
        subst e1 e3
        obtain ⟨Q, hQ⟩ : ∃ Q, wr.heap.size = Q := ⟨_, rfl⟩
        have hMQ : M ≤ Q := by omega
        have HLi : Hid (LiesV wr Q Ai (ents S)) := by rw [← hQ]; exact hl5
        have HnI : Hid (∀ b o, Ai = some ⟨b, o, none⟩ → b ≠ g) := fun b o h e => by
          have : M ≤ b := own_ge HO.out b (by rw [h]; rfl)
          omega
        have hQz : Q ≤ wr.heap.size := by omega
        clear hl5 e2 hQ HRow HO HR hz HZ
        go_wp2_with fail
        go_loopw [15] (fun v W => ∃ (j : Nat) (lc : List Ent), j ≤ Ni ∧ v = .int .i64 j ∧ Hid (TabAt W b g s s lc) ∧ Hid (Rest11 s hs0 l' lc S turn.toNat j) ∧ Hid (LiesV W Q Ai (ents S)) ∧ Hid (LiesV W M A3 (ents l')) ∧ Hid (Below N w W) ∧ Hid (Q ≤ W.heap.size)) (fun v _ => Ni - (intOf v).toNat)
        case atStart => exact ⟨0, lc, Nat.zero_le _, rfl, HT, HR0, HLi, HP, HB, hQz⟩
        case round =>
          rename_i wr0
          obtain ⟨j, lj, hj, rfl, HT, HR, HLi, HP, HB, HZ⟩ := hrel
          have hz := HZ.out
          by_cases hlt : j < Ni
          · obtain ⟨q, hq⟩ : ∃ q, (j + turn.toNat) % Ni = q := ⟨_, rfl⟩
            have hqN : q < Ni := by rw [← hq]; exact Nat.mod_lt _ (by omega)
            have hri : ((j : Int) + (turn.toNat : Int)) % (Ni : Int) = (q : Int) := by rw [← hq]; exact (Int.natCast_emod (j + turn.toNat) Ni).symm
            have hlt' : (j : Int) < (Ni : Int) := by omega
            have hqN' : (q : Int) < (Ni : Int) := by omega
            obtain ⟨x, hx⟩ : ∃ x, S[q]? = some x := ⟨_, List.getElem?_eq_getElem (by rw [HlenS.out]; exact hqN)⟩
            have Hx : Hid (S[(j + turn.toNat) % S.length]? = some x) := by show _ = _; rw [HlenS.out, hq]; exact hx
            obtain ⟨bx, px, hA, hbx, hrx⟩ := lies_ent HLi.out hx
            subst hA
            have Hra := Lib.hid (adr_of hrx)
            have HszA := Lib.hid (adr_size x.adr)
            have HjS : Hid (j < S.length) := by show _ < _; rw [HlenS.out]; exact hlt
            clear hx hrx hq
            generalize turn.toNat = tn at *
            go_wp2_with ((with_reducible refine at_load 23 ?_); refine wpList_load_mid rfl 23 _ rfl bx (px + q * 34) rfl (cells x.adr.1) _ Hra.out Try.underlying23 rfl HszA.out ?_)
            refine (tdrop_any _ b g s s hs0 lj HT.out HR.out.tb x.adr).mono ?_
            rintro e w6 ⟨code, l6, rfl, hT6, hp6, hB6⟩
            obtain ⟨rfl, hR6⟩ := HR.out.drop HS.out HjS.out Hx.out hp6
            have HT6 := Lib.hid hT6
            have HR6 := Lib.hid hR6
            have HLi6 := Lib.hid (lies_butG HLi.out hB6 hz HnI.out)
            have HP6 : Hid (LiesV w6 M A3 (ents l')) := lies_butG HP.out hB6 (by omega) HnP.out
            have HB6 : Hid (Below N w w6) := HB.out.trans ((hB6.less (by omega)).below (fun k hk => by rw [List.mem_singleton.1 hk]; exact hg))
            have hz6 : Q ≤ w6.heap.size := by have := hB6.size; omega
            clear hT6 hR6 hp6 hB6 HT HR HLi HP HB HZ hz Hra
            go_wp2_with fail
            go_roundw
            case rel => exact ⟨j + 1, l6, by omega, by go_num, HT6, HR6, HLi6, HP6, HB6, hz6⟩
            case measure => simp [intOf]; omega
          · obtain rfl : j = Ni := by omega
            have Heq : Hid (lj = l') := by
              have h := HR.out
              rw [HniS.out] at h
              exact h.done HK.out.tb
            go_wp2_with fail
            refine (tplaces_any _ b g s s lj HT.out).mono ?_
            rintro e w7 ⟨A7, c7, rfl, hr7, hb7⟩
            obtain ⟨A8, c8, hv8, -, hc8, -, hl8⟩ := lies_ownE hr7
            injection hv8 with e1 e2 e3
            subst e1 e3
            have HL8 := Lib.hid hl8
            have HP7 : Hid (LiesV w7 w7.heap.size A3 (ents l')) := (HP.out.below (hb7.mono (by omega))).le (by have := hb7.size; omega)
            have HB7 : Hid (Below N w w7) := HB.out.trans (hb7.mono (by omega))
            have hz7 : N ≤ w7.heap.size := by have := hb7.size; omega
            have Hlj : Hid (s = lj.length) := HT.out.len.symm
            have Hl' : Hid (s = l'.length) := HK.out.tb.len.symm
            clear hr7 hl8 e2 hb7 HT HR HLi HP HB HZ hz
            go_wp2_with fail
            refine (rsame11_any w7 w7.heap.size s c7 s c3 A7 A3 lj l' HL8.out HP7.out Hlj.out Hl'.out (Nat.le_refl _) (by omega) (by omega) hc8 hcp).mono ?_
            rintro e w8 ⟨rfl, hb8⟩
            rw [decide_eq_true Heq.out]
            have HB8 : Hid (Below N w w8) := HB7.out.trans (hb8.mono hz7)
            have hz8 : N ≤ w8.heap.size := by have := hb8.size; omega
            clear hb8 HL8 HP7 HB7
            go_wp2_with fail
            refine (HW.out w8).mono ?_
            rintro e w9 ⟨rfl, hb9⟩
            go_wp2_with fail
            go_ret
            exact ⟨rfl, by rw [hN]; exact HB8.out.trans (hb9.mono hz8)⟩
  · have hd : (decide ((m1 : Int) > 40) || decide ((m2 : Int) > 20)) = true := by
      rw [Bool.or_eq_true, decide_eq_true_eq, decide_eq_true_eq]
      omega
    by_cases h40 : m1 ≤ 40
    · have hd1 : decide ((m1 : Int) > 40) = false := decide_eq_false (by omega)
      have hd2 : decide ((m2 : Int) > 20) = true := decide_eq_true (by omega)
      go_enter Try.func5, Try.ntmps5
      go_wp2_with fail
      refine (HW.out w).mono ?_
      rintro e w6 ⟨rfl, hb6⟩
      go_wp2_with fail
      go_ret
      exact ⟨rfl, hb6⟩
    · have hd1 : decide ((m1 : Int) > 40) = true := decide_eq_true (by omega)
      go_enter Try.func5, Try.ntmps5
      go_wp2_with fail
      refine (HW.out w).mono ?_
      rintro e w6 ⟨rfl, hb6⟩
      go_wp2_with fail
      go_ret
      exact ⟨rfl, hb6⟩
end Go.Proofs.Ytkkllmjomdbndaa
