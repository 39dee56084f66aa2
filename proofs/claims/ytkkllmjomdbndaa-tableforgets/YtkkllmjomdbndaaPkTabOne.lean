/-
  Layer 11: what a table and the reference's list share, act by act; the contract of the laws' own made.
  Layer 11: the contract of the law TableOne.
-/
import Derived.Test.YtkkllmjomdbndaaPkTabW
import Derived.Test.YtkkllmjomdbndaaPkEntIn
import Derived.Test.YtkkllmjomdbndaaPkTabH
namespace Go.Proofs.Ytkkllmjomdbndaa
open Go.RowKit
set_option linter.unusedVariables false
set_option linter.unusedSimpArgs false

section
variable {n : Nat} {hn : 0 < n} {l r l2 r2 : List Ent} {e : Ent} {a : Adr} {c1 c2 : Int}
theorem Like.real (h : Like n hn l r) {x : Ent} (hx : x ∈ r) : x.count ≠ 0 := (h.ok x hx).real
theorem Like.len (h : Like n hn l r) : r.length < n := by have := h.tb.room; rw [h.cnt] at this; exact this
theorem Like.has (h : Like n hn l r) : (∃ f ∈ l, f.count ≠ 0 ∧ f.adr = a) ↔ ∃ f ∈ r, f.adr = a := by
  constructor
  · rintro ⟨f, hf, hc, ha⟩; exact ⟨f, (h.mem f hc).1 hf, ha⟩
  · rintro ⟨f, hf, ha⟩; exact ⟨f, (h.mem f (h.real hf)).2 hf, h.real hf, ha⟩
theorem Like.no (h : Like n hn l r) (h1 : ∀ f ∈ l, f.count ≠ 0 → f.adr ≠ a) : ∀ f ∈ r, f.adr ≠ a := fun f hf ha => h1 f ((h.mem f (h.real hf)).2 hf) (h.real hf) ha
theorem Like.ins (h : Like n hn l r) (hok : e.ok) (ht : Tb n hn l2) (hm : ∀ x : Ent, x.count ≠ 0 → (x ∈ l2 ↔ (x ∈ l ∧ x.adr ≠ e.adr) ∨ x = e)) (hc : cntT l2 = (putR r e).length) : Like n hn l2 (putR r e) := by
  refine ⟨ht, fun x hx => ?_, fun x hx => ?_, putR_dst e h.dst, hc⟩
  · rw [hm x hx, putR_mem, h.mem x hx]
  · rcases (putR_mem r e x).1 hx with ⟨h1, _⟩ | rfl
    · exact h.ok x h1
    · exact hok
theorem Like.put (h : Like n hn l r) (hp : PutP n hn l e c1 l2) (hr : RPutP r n e c2 r2) : c1 = c2 ∧ Like n hn l2 r2 := by
  rcases hp.what with ⟨p1, rfl, rfl⟩ | ⟨p1, p2, rfl, p3, p4⟩ | ⟨p1, p2, p3, rfl, rfl⟩ | ⟨p1, p2, p3, rfl, p4, p5⟩
  · rcases hr with ⟨_, rfl, rfl⟩ | ⟨q1, _⟩ | ⟨q1, _⟩ | ⟨q1, _⟩
    · exact ⟨rfl, h⟩
    · exact absurd q1 p1
    · exact absurd q1 p1
    · exact absurd q1 p1
  · have hx := h.has.1 p2
    rcases hr with ⟨q1, _⟩ | ⟨_, _, rfl, rfl⟩ | ⟨_, q2, _⟩ | ⟨_, q2, _⟩
    · exact absurd p1 q1
    · refine ⟨rfl, h.ins p1 hp.tb p4 ?_⟩
      rw [p3, h.cnt, putR_len, cnt_one h.dst hx]
    · obtain ⟨f, hf, ha⟩ := hx; exact absurd ha (q2 f hf)
    · obtain ⟨f, hf, ha⟩ := hx; exact absurd ha (q2 f hf)
  · have hx := h.no p2
    rcases hr with ⟨q1, _⟩ | ⟨_, ⟨f, hf, ha⟩, _⟩ | ⟨_, _, _, rfl, rfl⟩ | ⟨_, _, q2, _⟩
    · exact absurd p1 q1
    · exact absurd ha (hx f hf)
    · exact ⟨rfl, h⟩
    · rw [h.cnt] at p3; omega
  · have hx := h.no p2
    rcases hr with ⟨q1, _⟩ | ⟨_, ⟨f, hf, ha⟩, _⟩ | ⟨_, _, q2, _⟩ | ⟨_, _, _, rfl, rfl⟩
    · exact absurd p1 q1
    · exact absurd ha (hx f hf)
    · rw [h.cnt] at p3; omega
    · refine ⟨rfl, h.ins p1 hp.tb p5 ?_⟩
      rw [p4, h.cnt, putR_len, cnt_no hx]
theorem Like.drop (h : Like n hn l r) (hp : DropP n hn l a c1 l2) (hr : RDropP r a c2 r2) : c1 = c2 ∧ Like n hn l2 r2 := by
  rcases hp.what with ⟨p2, rfl, p3, p4⟩ | ⟨p2, rfl, rfl⟩
  · obtain ⟨f, hf, ha⟩ := h.has.1 p2
    rcases hr with ⟨k, e, hk, hke, rfl, rfl⟩ | ⟨q2, _⟩
    · refine ⟨rfl, hp.tb, fun x hx => ?_, fun x hx => ?_, dropR_dst hk h.dst, ?_⟩
      · rw [p4 x hx, dropR_mem hk h.dst, h.mem x hx, hke]
      · exact h.ok x ((dropR_mem hk h.dst x).1 hx).1
      · have := dropR_len hk
        have := h.cnt
        omega
    · exact absurd ha (q2 f hf)
  · have hx := h.no p2
    rcases hr with ⟨k, e, hk, hke, _⟩ | ⟨_, rfl, rfl⟩
    · exact absurd hke (hx e (List.mem_of_getElem? hk))
    · exact ⟨rfl, h⟩
theorem Like.new (n : Nat) (hn : 0 < n) : Like n hn (List.replicate n zeroEnt) [] :=
  ⟨Tb.new n hn, fun x hx => ⟨fun h => by rw [List.eq_of_mem_replicate h] at hx; exact absurd rfl hx, by simp⟩, by simp, List.Pairwise.nil, by simp [cntT, zeroEnt]⟩
end
/-- A row that does not lie in block g stays as it was when g alone is written. -/
theorem RowE.butG {w w' : World} {v : Value} {l : List Ent} {g : Nat} (h : RowE w v l) (hB : But [g] w.heap.size w w') (hne : v.ownBlock ≠ some g) : RowE w' v l := by
  obtain ⟨A, c, rfl, hc, hl⟩ := h
  refine ⟨A, c, rfl, hc, fun hx => ?_⟩
  obtain ⟨b, o, hA, hb, hcell⟩ := hl hx
  subst hA
  have hbg : b ≠ g := fun e => hne (by rw [e]; rfl)
  exact ⟨b, o, rfl, Nat.lt_of_lt_of_le hb hB.size, fun i v hi => (World.cell?_of_block (hB.block b hb (by simp only [List.mem_singleton]; exact hbg))).trans (hcell i v hi)⟩
theorem lies_op {w : World} {B : Nat} {A : Option Addr} {l : List Op11} (h : LiesV w B A (op11s l)) {i : Nat} {o : Op11} (hi : l[i]? = some o) : ∃ b p, A = some ⟨b, p, none⟩ ∧ b < B ∧ w.cell? ⟨b, p + i * 35, none⟩ = some (.int .i64 o.1) ∧ w.rangeAt b (p + i * 35 + 1) o.2.cs := by
  have hlt := (List.getElem?_eq_some_iff.1 hi).1
  have hlen : (op11s l).length = l.length * 35 := flat_length Op11.cs_length l
  obtain ⟨b, p, hA, hb, hc⟩ := h (fun e0 => by have := congrArg List.length e0; rw [hlen] at this; simp only [List.length_nil] at this; omega)
  have key : ∀ j v, o.cs[j]? = some v → w.cell? ⟨b, p + (i * 35 + j), none⟩ = some v := fun j v hj => by
    have hj35 := (List.getElem?_eq_some_iff.1 hj).1
    rw [Op11.cs_length] at hj35
    exact hc (i * 35 + j) v (by rw [op11s, flat_get Op11.cs_length hi j hj35]; exact hj)
  refine ⟨b, p, hA, hb, key 0 _ rfl, fun j v hj => ?_⟩
  have := key (j + 1) v hj
  rw [show p + i * 35 + 1 + j = p + (i * 35 + (j + 1)) by omega]
  exact this

set_option maxRecDepth 100000 in
set_option maxHeartbeats 8000000 in
theorem lmade_any (w : World) (B m c : Nat) (A : Option Addr) (l : List Op11) (n : Nat) (hn : 0 < n) (hn2 : n ≤ 400) (h : LiesV w B A (op11s l)) (hm : m = l.length) (hB : B ≤ w.heap.size) (hle : m ≤ 1000) (hc : m ≤ c) :
    Calls Try.prog 8 #[.int .i64 (n : Int), .slice A m c] w fun e w' => ∃ b g l' r v', e = .returned (.tuple #[.pointer (some ⟨b, 0, none⟩), v', .bool true]) ∧ TabAt w' b g n n l' ∧ RowE w' v' r ∧ Like n hn l' r ∧ w.heap.size ≤ b ∧ w.heap.size ≤ g ∧ v'.ownBlock ≠ some g ∧ Below w.heap.size w w' := by
  have HL := Lib.hid h
  have Hm := Lib.hid hm
  clear h hm
  obtain ⟨N, hN⟩ : ∃ N, w.heap.size = N := ⟨_, rfl⟩
  rw [hN] at hB ⊢
  go_enter Try.func8, Try.ntmps8
  go_wp2_with fail
  refine (tnew_any w (n : Int)).mono ?_
  intro r w1 hnew
  unfold New11V at hnew
  rw [if_pos (by omega), Int.toNat_natCast, hN] at hnew
  obtain ⟨b, g, rfl, hT1, hb, hg, hb1⟩ := hnew
  have HT1 := Lib.hid hT1
  have HB1 := Lib.hid hb1
  have HR1 : Hid (RowE w1 (.slice none 0 0) []) := RowE.nil w1
  have HK1 := Lib.hid (Like.new n hn)
  have hz1 : N ≤ w1.heap.size := by have := hb1.size; omega
  have HE1 : Hid ((Value.slice none 0 0).ownBlock ≠ some g) := by show _ ≠ _; simp [Value.ownBlock]
  clear hT1 hb1
  go_wp2_with fail
  go_loopw [9, 10] (fun v9 v W => ∃ (k : Nat) (l' r : List Ent), k ≤ m ∧ v = .int .i64 k ∧ Hid (TabAt W b g n n l') ∧ Hid (RowE W v9 r) ∧ Hid (Like n hn l' r) ∧ Hid (v9.ownBlock ≠ some g) ∧ Hid (Below N w W) ∧ Hid (N ≤ W.heap.size)) (fun _ v _ => m - (intOf v).toNat)
  case atStart => exact ⟨0, _, [], Nat.zero_le _, rfl, HT1, HR1, HK1, HE1, HB1, hz1⟩
  case round =>
    obtain ⟨k, l', r, hk, rfl, HT, HR, HK, HE, HB, HZ⟩ := hrel
    clear HT1 HR1 HK1 HE1 HB1 hz1
    by_cases hlt : k < m
    · have hlt' : (k : Int) < (m : Int) := by omega
      have hk0 : (0 : Int) ≤ (k : Int) := by omega
      obtain ⟨o, ho⟩ : ∃ o, l[k]? = some o := ⟨_, List.getElem?_eq_getElem (by rw [← Hm.out]; exact hlt)⟩
      obtain ⟨ba, p, hA, hba, c1, hra⟩ := lies_op (HL.out.below (HB.out.mono hB)) ho
      subst hA
      have Hra := Lib.hid hra
      have hz := HZ.out
      have hrl : r.length ≤ 900 := by have := HK.out.len; omega
      have Hrl := Lib.hid hrl
      have hbg : ba ≠ g := by omega
      clear hra ho hrl
      by_cases hkind : o.1 = 2
      · have hd : (o.1 == 2) = true := by rw [beq_iff_eq]; exact hkind
        have Hrd := Lib.hid (adr_of Hra.out)
        have HszA := Lib.hid (adr_size o.2.adr)
        rw [hkind] at c1
        go_wp2_with ((with_reducible refine at_load 23 ?_); refine wpList_load_mid rfl 23 _ rfl ba (p + k * 35 + 1) rfl (cells o.2.adr.1) _ Hrd.out Try.underlying23 rfl HszA.out ?_)
        refine (rdrop_any wr _ r o.2.adr HR.out Hrl.out).mono ?_
        rintro e w3 ⟨c2, r2, v2, rfl, hR2, hown2, hp2, hb2⟩
        have HT3 : Hid (TabAt w3 b g n n l') := HT.out.later hb2
        have HR3 := Lib.hid hR2
        have HE3 : Hid (v2.ownBlock ≠ some g) := by
          rcases hown2 with rfl | h
          · exact HE.out
          · intro e; have := h g e; have := HT.out.glt; omega
        have HB3 : Hid (Below N w w3) := HB.out.trans (hb2.mono hz)
        have hz3 : N ≤ w3.heap.size := by have := hb2.size; omega
        have Hrd3 := Lib.hid (range_below Hrd.out hb2 (show ba < wr.heap.size by omega))
        clear hR2 hown2 hb2 HT HR HE HB HZ Hrd c1
        go_wp2_with ((with_reducible refine at_load 23 ?_); refine wpList_load_mid rfl 23 _ rfl ba (p + k * 35 + 1) rfl (cells o.2.adr.1) _ Hrd3.out Try.underlying23 rfl HszA.out ?_)
        refine (tdrop_any w3 b g n n hn l' HT3.out HK.out.tb o.2.adr).mono ?_
        rintro e w4 ⟨c4, l4, rfl, hT4, hp4, hB4⟩
        obtain ⟨rfl, hK4⟩ := HK.out.drop hp4 hp2
        have HT4 := Lib.hid hT4
        have HK4 := Lib.hid hK4
        have HR4 : Hid (RowE w4 v2 r2) := HR3.out.butG hB4 HE3.out
        have HB4 : Hid (Below N w w4) := HB3.out.trans ((hB4.less hz3).below (fun k hk => by rw [List.mem_singleton.1 hk]; exact hg))
        have hz4 : N ≤ w4.heap.size := by have := hB4.size; omega
        have Hcnt := Lib.hid hK4.cnt
        clear hT4 hK4 hp2 hp4 hB4 HT3 HR3 HB3 HK Hrd3 Hra
        obtain ⟨A2, cc2, hv2, hcc2, hl2⟩ := HR4.out
        subst hv2
        clear hl2 hcc2
        go_wp2_with fail
        refine (tlen_any w4 b g n n l4 HT4.out).mono ?_
        rintro e w5 ⟨rfl, hw⟩
        rw [hw, Hcnt.out]
        clear hw w5 Hcnt
        go_wp2_with fail
        go_roundw
        case rel => exact ⟨k + 1, l4, r2, by omega, by go_num, HT4, HR4, HK4, HE3, HB4, hz4⟩
        case measure => simp [intOf]; omega
      · have hd : (o.1 == 2) = false := by rw [beq_eq_false_iff_ne]; exact hkind
        have Hse := Lib.hid (ent_size o.2)
        go_wp2_with ((with_reducible refine at_load 32 ?_); refine wpList_load_mid rfl 32 _ rfl ba (p + k * 35 + 1) rfl o.2.cs _ Hra.out Try.underlying32 rfl Hse.out ?_)
        refine (rput_any wr _ r n o.2 HR.out HK.out.dst Hrl.out (by omega)).mono ?_
        rintro e w3 ⟨c2, r2, v2, rfl, hR2, hown2, hp2, hb2⟩
        have HT3 : Hid (TabAt w3 b g n n l') := HT.out.later hb2
        have HR3 := Lib.hid hR2
        have HE3 : Hid (v2.ownBlock ≠ some g) := by
          rcases hown2 with rfl | h
          · exact HE.out
          · intro e; have := h g e; have := HT.out.glt; omega
        have HB3 : Hid (Below N w w3) := HB.out.trans (hb2.mono hz)
        have hz3 : N ≤ w3.heap.size := by have := hb2.size; omega
        have Hra3 := Lib.hid (range_below Hra.out hb2 (show ba < wr.heap.size by omega))
        clear hR2 hown2 hb2 HT HR HE HB HZ c1 Hra
        go_wp2_with ((with_reducible refine at_load 32 ?_); refine wpList_load_mid rfl 32 _ rfl ba (p + k * 35 + 1) rfl o.2.cs _ Hra3.out Try.underlying32 rfl Hse.out ?_)
        refine (tput_any w3 b g n n hn l' HT3.out HK.out.tb o.2).mono ?_
        rintro e w4 ⟨c4, l4, rfl, hT4, hp4, hB4⟩
        obtain ⟨rfl, hK4⟩ := HK.out.put hp4 hp2
        have HT4 := Lib.hid hT4
        have HK4 := Lib.hid hK4
        have HR4 : Hid (RowE w4 v2 r2) := HR3.out.butG hB4 HE3.out
        have HB4 : Hid (Below N w w4) := HB3.out.trans ((hB4.less hz3).below (fun k hk => by rw [List.mem_singleton.1 hk]; exact hg))
        have hz4 : N ≤ w4.heap.size := by have := hB4.size; omega
        have Hcnt := Lib.hid hK4.cnt
        clear hT4 hK4 hp2 hp4 hB4 HT3 HR3 HB3 HK Hra3
        obtain ⟨A2, cc2, hv2, hcc2, hl2⟩ := HR4.out
        subst hv2
        clear hl2 hcc2
        go_wp2_with fail
        refine (tlen_any w4 b g n n l4 HT4.out).mono ?_
        rintro e w5 ⟨rfl, hw⟩
        rw [hw, Hcnt.out]
        clear hw w5 Hcnt
        go_wp2_with fail
        go_roundw
        case rel => exact ⟨k + 1, l4, r2, by omega, by go_num, HT4, HR4, HK4, HE3, HB4, hz4⟩
        case measure => simp [intOf]; omega
    · obtain rfl : k = m := by omega
      go_wp2_with fail
      go_ret3
      exact ⟨b, g, l', r, _, rfl, HT.out, HR.out, HK.out, hb, hg, HE.out, HB.out⟩
end Go.Proofs.Ytkkllmjomdbndaa
namespace Go.Proofs.Ytkkllmjomdbndaa
open Go.RowKit
set_option linter.unusedVariables false
set_option linter.unusedSimpArgs false

/-- What works answers. -/
abbrev Works11 : Prop := ∀ w : World, Calls Try.prog 7 #[] w fun e w' => e = .returned (.bool true) ∧ Below w.heap.size w w'
theorem Like.same {n : Nat} {hn : 0 < n} {l l' r : List Ent} (h : Like n hn l r) (h' : Like n hn l' r) : l = l' :=
  Tb.one h.tb h'.tb fun x hx => by rw [h.mem x hx, h'.mem x hx]

set_option maxRecDepth 100000 in
set_option maxHeartbeats 8000000 in
theorem one11_any (HW : Works11) (w : World) (B m c : Nat) (A : Option Addr) (l : List Op11) (n : UInt8) (h : LiesV w B A (op11s l)) (hm : m = l.length) (hB : B ≤ w.heap.size) (hc : m ≤ c) :
    Calls Try.prog 4 #[.int .u8 (n.toNat : Int), .slice A m c] w fun e w' => e = .returned (.bool true) ∧ Below w.heap.size w w' := by
  have HL := Lib.hid h
  have Hm := Lib.hid hm
  have HW := Lib.hid HW
  clear h hm
  by_cases hbig : m ≤ 80
  · have hd : decide ((m : Int) > 80) = false := decide_eq_false (by omega)
    obtain ⟨s, hs⟩ : ∃ s, 1 + n.toNat % 24 = s := ⟨_, rfl⟩
    have hs0 : 0 < s := by omega
    have hs24 : s ≤ 24 := by omega
    have Hs := Lib.hid hs
    clear hs
    go_enter Try.func4, Try.ntmps4
    go_wp2_with fail
    refine (lsize_any w n).mono ?_
    rintro e w1 ⟨rfl, hw⟩
    rw [hw, Hs.out]
    clear hw w1
    go_wp2_with fail
    refine (lmade_any w B m c A l s hs0 (by omega) HL.out Hm.out hB (by omega) hc).mono ?_
    rintro e w2 ⟨b, g, l', r, v, rfl, hT, hR, hK, hb, hg, hne, hB2⟩
    have HT := Lib.hid hT
    have HR := Lib.hid hR
    have HK := Lib.hid hK
    have HB2 := Lib.hid hB2
    have hz2 : w.heap.size ≤ w2.heap.size := hB2.size
    clear hT hR hK hne hB2
    go_wp2_with fail
    refine (tplaces_any w2 b g s s l' HT.out).mono ?_
    rintro e w3 ⟨A3, c3, rfl, hr3, hb3⟩
    have HR3 : Hid (RowE w3 v r) := HR.out.later hb3
    have HP3 := Lib.hid hr3
    have HB3 : Hid (Below w.heap.size w w3) := HB2.out.trans (hb3.mono hz2)
    have hz3 : w.heap.size ≤ w3.heap.size := by have := hb3.size; omega
    clear hr3 hb3 HT HR HB2
    go_wp2_with fail
    refine (lsize_any w3 n).mono ?_
    rintro e w4 ⟨rfl, hw⟩
    rw [hw, Hs.out]
    clear hw w4
    go_wp2_with fail
    refine (rplaces_any w3 v r s hs0 (by omega) HR3.out HK.out.ok HK.out.dst HK.out.len).mono ?_
    rintro e w4 ⟨v4, rfl, l4, hr4, hK4, hb4⟩
    have HP4 : Hid (w4.ownsRow w2.heap.size 32 34 (.slice A3 s c3) s (ents l')) := own_below HP3.out hb4
    have HQ4 := Lib.hid hr4
    have HB4 : Hid (Below w.heap.size w w4) := HB3.out.trans (hb4.mono hz3)
    have hz4 : w.heap.size ≤ w4.heap.size := by have := hb4.size; omega
    have Heq : Hid (l' = l4) := HK.out.same hK4
    have Hlen : Hid (l4.length = s) := hK4.tb.len
    clear hr4 hK4 hb4 HP3 HR3 HB3
    obtain ⟨A1, c1, hv1, -, hcap1, -, hl1⟩ := lies_ownE HP4.out
    injection hv1 with e1 e2 e3
    subst e1 e3
    obtain ⟨A2, c2, hv2, -, hcap2, -, hl2⟩ := lies_ownE HQ4.out
    subst hv2
    have HL1 := Lib.hid hl1
    have HL2 := Lib.hid hl2
    have Hlen1 : Hid (s = l'.length) := by show _ = _; rw [Heq.out, Hlen.out]
    clear hl1 hl2 e2
    go_wp2_with fail
    refine (rsame11_any w4 w4.heap.size s c3 s c2 A3 A2 l' l4 HL1.out HL2.out Hlen1.out Hlen.out.symm (Nat.le_refl _) (by omega) (by omega) hcap1 hcap2).mono ?_
    rintro e w5 ⟨rfl, hb5⟩
    have HB5 : Hid (Below w.heap.size w w5) := HB4.out.trans (hb5.mono hz4)
    have hz5 : w.heap.size ≤ w5.heap.size := by have := hb5.size; omega
    rw [decide_eq_true Heq.out]
    clear hb5 HB4
    go_wp2_with fail
    refine (HW.out w5).mono ?_
    rintro e w6 ⟨rfl, hb6⟩
    go_wp2_with fail
    go_ret
    exact ⟨rfl, HB5.out.trans (hb6.mono hz5)⟩
  · have hd : decide ((m : Int) > 80) = true := decide_eq_true (by omega)
    go_enter Try.func4, Try.ntmps4
    go_wp2_with fail
    refine (HW.out w).mono ?_
    rintro e w6 ⟨rfl, hb6⟩
    go_wp2_with fail
    go_ret
    exact ⟨rfl, hb6⟩
end Go.Proofs.Ytkkllmjomdbndaa
