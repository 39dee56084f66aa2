/-
  Layer 11: the contracts of the reference's Drop and lay.
  Layer 11: the contract of Put.
-/
import Derived.Test.YtkkllmjomdbndaaPkTabR
import Derived.Test.YtkkllmjomdbndaaPkTabE
namespace Go.Proofs.Ytkkllmjomdbndaa
open Go.RowKit
set_option linter.unusedVariables false
set_option linter.unusedSimpArgs false

theorem wpList_append_range {P : Program} {w : World} {ops : Array Oper} {rest : List Oper} {o : Oper} {a : Act} {Q : Exit → Act → World → Prop} (hgd : o.guard = none) (s x : Operand) (t : TypeId) (ho : o.op = .call { callee := .builtin .append, args := #[s, x], argTypes := #[t, t] })
    (base : Nat) (e : TypeId) {z : Value} {size bytes : Nat} (ht : P.underlying t = some (.slice e)) (hi : (P.info? e).map (fun i => (i.zero, i.size, i.bytes)) = some (some z, size, bytes)) (hzs : z.cells.size = size) (hsz : 0 < size)
    (v : Value) (n : Nat) (xs : List Value) (hs : a.eval s = v) (hown : w.ownsRow base e size v n xs)
    (b k m c : Nat) (ys : List Value) (hx : a.eval x = .slice (some ⟨b, k, none⟩) m c) (hl : ys.length = m * size) (hr : w.rangeAt b k ys) (h1 : ∀ u ∈ ys, u.oneCell' = true)
    (h63 : n + m ≤ maxLen) (hbytes : (n + m) * bytes ≤ 140737488355328) (hbase : base ≤ w.heap.size)
    (h : ∀ v' w', w'.ownsRow base e size v' (n + m) (xs ++ ys) → w.grownBy w' v.ownBlock → wpList P ops Q rest (a.put o.dst v') w') : wpList P ops Q (o :: rest) a w := by
  obtain ⟨i, hie, hz, hs1, hb1⟩ := info_parts hi
  exact wpList_append_own_at w hgd s x t ho base e i z size bytes ht hie hz hs1 hb1 hzs hsz v n xs hs hown ⟨b, k, none⟩ m c ys hx hl (fun j u hj => by rw [Addr.add_lit]; exact hr j u hj) h1 h63 hbytes hbase (fun v' w' a1 a2 _ _ => h v' w' a1 a2)
theorem lies_range {w : World} {B : Nat} {A : Option Addr} {l : List Ent} (h : LiesV w B A (ents l)) (hl : 0 < l.length) : ∃ b o, A = some ⟨b, o, none⟩ ∧ b < B ∧ w.rangeAt b o (ents l) := by
  obtain ⟨b, o, hA, hb, hc⟩ := h (fun e0 => by have := congrArg List.length e0; rw [ents_length] at this; simp only [List.length_nil] at this; omega)
  exact ⟨b, o, hA, hb, hc⟩
theorem range_take {w : World} {b o : Nat} {l : List Ent} (h : w.rangeAt b o (ents l)) (k : Nat) : w.rangeAt b o (ents (l.take k)) := by
  intro j v hj
  refine h j v ?_
  conv => lhs; rw [← List.take_append_drop k l, ents_append]
  rw [List.getElem?_append_left (List.getElem?_eq_some_iff.1 hj).1]
  exact hj
theorem range_drop {w : World} {b o : Nat} {l : List Ent} (h : w.rangeAt b o (ents l)) {k : Nat} (hk : k ≤ l.length) : w.rangeAt b (o + k * 34) (ents (l.drop k)) := by
  intro j v hj
  have hlen : (ents (l.take k)).length = k * 34 := by rw [ents_length, List.length_take, Nat.min_eq_left hk]
  rw [Nat.add_assoc]
  refine h (k * 34 + j) v ?_
  conv => lhs; rw [← List.take_append_drop k l, ents_append]
  rw [List.getElem?_append_right (by omega), hlen, Nat.add_sub_cancel_left]
  exact hj
/-- What the reference's Drop answers. -/
def RDropP (l : List Ent) (a : Adr) (code : Int) (l' : List Ent) : Prop :=
  (∃ (k : Nat) (e : Ent), l[k]? = some e ∧ e.adr = a ∧ code = 0 ∧ l' = dropR l k) ∨ ((∀ e ∈ l, e.adr ≠ a) ∧ code = 8 ∧ l' = l)

set_option maxRecDepth 100000 in
set_option maxHeartbeats 8000000 in
theorem rdrop_any (w : World) (v : Value) (l : List Ent) (a : Adr) (h : RowE w v l) (hle : l.length ≤ 900) :
    Calls Try.prog 26 #[v, a.val] w fun r w' => ∃ code l' v', r = .returned (.tuple #[v', .int .i64 code]) ∧ RowE w' v' l' ∧ (v' = v ∨ ∀ g, v'.ownBlock = some g → w.heap.size ≤ g) ∧ RDropP l a code l' ∧ Below w.heap.size w w' := by
  obtain ⟨A, c, rfl, hc, hl⟩ := h
  have HL := Lib.hid hl
  have HszA := Lib.hid (adr_size a)
  have HRow : Hid (∀ w', Below w.heap.size w w' → RowE w' (.slice A l.length c) l) := fun w' hb => ⟨A, c, rfl, hc, (hl.below hb).le hb.size⟩
  obtain ⟨n, hn⟩ : ∃ n, l.length = n := ⟨_, rfl⟩
  have Hn := Lib.hid hn
  rw [hn] at hc hle HRow ⊢
  clear hl hn
  go_enter Try.func26, Try.ntmps26
  go_wp2_with (with_reducible refine at_box 23 ?_; refine wpList_box_rowV rfl 23 _ rfl (cells a.1) rfl ?_)
  intro w1 hr1 hb1 hs1
  have q1 := Lib.hid (row_range hr1)
  have HL1 : Hid (LiesV w1 w.heap.size A (ents l)) := HL.out.below hb1
  go_wp2_with ((with_reducible refine at_load 23 ?_); refine wpList_load_mid rfl 23 _ rfl w.heap.size 0 rfl (cells a.1) _ q1.out Try.underlying23 rfl HszA.out ?_)
  refine (rfind_any w1 w.heap.size n c A l a HL1.out Hn.out.symm (by omega) (by omega) hc).mono ?_
  rintro r w2 ⟨⟨kk, rfl, hf⟩, hb2⟩
  have HB2 : Hid (Below w.heap.size w w2) := hb1.trans (hb2.mono (by omega))
  have hs2 : w.heap.size ≤ w2.heap.size := by have := hb2.size; omega
  clear hr1 hb1 hs1 hb2 q1 HL1
  rcases hf with ⟨k, f, rfl, hk, ha⟩ | ⟨rfl, hno⟩
  · have hkn : k < n := by have := (List.getElem?_eq_some_iff.1 hk).1; rw [Hn.out] at this; exact this
    have Hp : Hid (RDropP l a 0 (dropR l k)) := .inl ⟨k, f, hk, ha, rfl, rfl⟩
    obtain ⟨b, o, hA, hb, hr⟩ := lies_range (HL.out.below HB2.out) (by rw [Hn.out]; omega)
    subst hA
    have R1 : Hid (w2.rangeAt b o (ents (l.take k))) := range_take hr k
    have R2 : Hid (w2.rangeAt b (o + (k + 1) * 34) (ents (l.drop (k + 1)))) := range_drop hr (by rw [Hn.out]; omega)
    have L1 : Hid ((ents (l.take k)).length = k * 34) := by show _ = _; rw [ents_length, List.length_take, Hn.out, Nat.min_eq_left (by omega)]
    have L2 : Hid ((ents (l.drop (k + 1))).length = (n - (k + 1)) * 34) := by show _ = _; rw [ents_length, List.length_drop, Hn.out]
    obtain ⟨N, hN⟩ : ∃ N, w.heap.size = N := ⟨_, rfl⟩
    rw [hN] at HB2 hs2 hb
    have hkd : decide ((k : Int) < 0) = false := decide_eq_false (by omega)
    have hk0 : (0 : Int) ≤ (k : Int) := by omega
    have hkn' : (k : Int) < (n : Int) := by omega
    clear hr hk ha
    by_cases hck : c = k + 1
    · have R2 : Hid (w2.rangeAt b o (ents (l.drop (k + 1)))) := by
        intro j v hj
        have h1 := (List.getElem?_eq_some_iff.1 hj).1
        rw [L2.out] at h1
        omega
      go_wp2_with (first
        | (at_builtin; refine wpList_append_range rfl _ _ 26 rfl N 32 Try.underlying26 Try.infoE rfl (by decide) (.slice none 0 0) 0 [] rfl (World.ownsRow_nil _ _ _ _) b o k _ (ents (l.take k)) rfl L1.out R1.out (ents_one _) (by unfold maxLen; omega) (by omega) hs2 ?_; intro v3 w3 hown3 hg3; have HO3 := Lib.hid hown3; have hb3 : Below N w2 w3 := (Below.refl _ _).grown hg3 hs2 (by simp [Value.ownBlock]); have R3 := Lib.hid (range_below R2.out hb3 hb); have HB3 : Hid (Below N w w3) := HB2.out.trans hb3; have hs3 : N ≤ w3.heap.size := (by have := hb3.size; omega); clear hg3 hown3 hb3)
        | (at_builtin; refine wpList_append_range rfl _ _ 26 rfl N 32 Try.underlying26 Try.infoE rfl (by decide) _ _ _ rfl HO3.out b o (n - (k + 1)) _ (ents (l.drop (k + 1))) rfl L2.out R3.out (ents_one _) (by unfold maxLen; omega) (by omega) hs3 ?_; intro v4 w4 hown4 hg4))
      have hB4 : Below N w w4 := HB3.out.grown hg4 hs3 (fun g e => by have := own_ge HO3.out g e; omega)
      have hrow : RowE w4 v4 (dropR l k) := RowE.own (by unfold dropR; rw [ents_append]; exact hown4)
      go_ret2
      exact ⟨0, _, _, rfl, hrow, .inr (fun g e => by have : N ≤ g := own_ge hown4 g e; omega), Hp.out, by rw [hN]; exact hB4⟩
    · skip
      go_wp2_with (first
        | (at_builtin; refine wpList_append_range rfl _ _ 26 rfl N 32 Try.underlying26 Try.infoE rfl (by decide) (.slice none 0 0) 0 [] rfl (World.ownsRow_nil _ _ _ _) b o k _ (ents (l.take k)) rfl L1.out R1.out (ents_one _) (by unfold maxLen; omega) (by omega) hs2 ?_; intro v3 w3 hown3 hg3; have HO3 := Lib.hid hown3; have hb3 : Below N w2 w3 := (Below.refl _ _).grown hg3 hs2 (by simp [Value.ownBlock]); have R3 := Lib.hid (range_below R2.out hb3 hb); have HB3 : Hid (Below N w w3) := HB2.out.trans hb3; have hs3 : N ≤ w3.heap.size := (by have := hb3.size; omega); clear hg3 hown3 hb3)
        | (at_builtin; refine wpList_append_range rfl _ _ 26 rfl N 32 Try.underlying26 Try.infoE rfl (by decide) _ _ _ rfl HO3.out b (o + (k + 1) * 34) (n - (k + 1)) _ (ents (l.drop (k + 1))) rfl L2.out R3.out (ents_one _) (by unfold maxLen; omega) (by omega) hs3 ?_; intro v4 w4 hown4 hg4))
      have hB4 : Below N w w4 := HB3.out.grown hg4 hs3 (fun g e => by have := own_ge HO3.out g e; omega)
      have hrow : RowE w4 v4 (dropR l k) := RowE.own (by unfold dropR; rw [ents_append]; exact hown4)
      go_ret2
      exact ⟨0, _, _, rfl, hrow, .inr (fun g e => by have : N ≤ g := own_ge hown4 g e; omega), Hp.out, by rw [hN]; exact hB4⟩
  · have Hp : Hid (RDropP l a 8 l) := .inr ⟨hno, rfl, rfl⟩
    have hkd : decide ((-1 : Int) < 0) = true := by decide
    clear hno
    go_wp2_with fail
    go_ret2
    exact ⟨8, l, _, rfl, HRow.out _ HB2.out, .inl rfl, Hp.out, HB2.out⟩
end Go.Proofs.Ytkkllmjomdbndaa
namespace Go.Proofs.Ytkkllmjomdbndaa
open Go.RowKit
set_option linter.unusedVariables false
set_option linter.unusedSimpArgs false

/-- What Put makes of a table, and what it answers. -/
structure PutP (n : Nat) (hn : 0 < n) (l : List Ent) (e : Ent) (code : Int) (l' : List Ent) : Prop where
  tb : Tb n hn l'
  what : (¬ e.ok ∧ code = 2 ∧ l' = l) ∨
    (e.ok ∧ (∃ f ∈ l, f.count ≠ 0 ∧ f.adr = e.adr) ∧ code = 0 ∧ cntT l' = cntT l ∧ ∀ x : Ent, x.count ≠ 0 → (x ∈ l' ↔ (x ∈ l ∧ x.adr ≠ e.adr) ∨ x = e)) ∨
    (e.ok ∧ (∀ f ∈ l, f.count ≠ 0 → f.adr ≠ e.adr) ∧ n ≤ cntT l + 1 ∧ code = 6 ∧ l' = l) ∨
    (e.ok ∧ (∀ f ∈ l, f.count ≠ 0 → f.adr ≠ e.adr) ∧ cntT l + 1 < n ∧ code = 0 ∧ cntT l' = cntT l + 1 ∧ ∀ x : Ent, x.count ≠ 0 → (x ∈ l' ↔ (x ∈ l ∧ x.adr ≠ e.adr) ∨ x = e))
theorem Ent.ok.real {e : Ent} (h : e.ok) : e.count ≠ 0 := by have := h.1; omega

set_option maxRecDepth 100000 in
set_option maxHeartbeats 8000000 in
theorem tput_any (w : World) (b g c n : Nat) (hn : 0 < n) (l : List Ent) (h : TabAt w b g c n l) (ht : Tb n hn l) (e : Ent) :
    Calls Try.prog 17 #[.pointer (some ⟨b, 0, none⟩), e.val] w fun r w' => ∃ code l', r = .returned (.int .i64 code) ∧ TabAt w' b g c n l' ∧ PutP n hn l e code l' ∧ But [g] w.heap.size w w' := by
  have hle := h.le
  have hcap := h.cap
  have hbl := h.blt
  have hgl := h.glt
  have Hh := Lib.hid h
  have Ht := Lib.hid ht
  have Hse := Lib.hid (ent_size e)
  have HszA := Lib.hid (adr_size e.adr)
  clear h ht
  go_enter Try.func17, Try.ntmps17
  go_wp2_with ((with_reducible refine at_box 32 ?_); refine wpList_box_rowV rfl 32 _ rfl e.cs rfl ?_)
  intro w1 hr1 hb1 hs1
  have hT1 := Hh.out.later hb1
  have q1 := Lib.hid (row_range hr1)
  go_wp2_with ((with_reducible refine at_load 32 ?_); refine wpList_load_mid rfl 32 _ rfl w.heap.size 0 rfl e.cs _ q1.out Try.underlying32 rfl Hse.out ?_)
  refine (tvalid_any w1 e).mono ?_
  rintro r w2 ⟨rfl, hb2⟩
  have HT2 : Hid (TabAt w2 b g c n l) := hT1.later hb2
  have HR2 : Hid (RowV w2 w.heap.size 32 e.cs) := hr1.below (by omega) hb2
  have HB2 : Hid (Below w.heap.size w w2) := hb1.trans (hb2.mono (by omega))
  clear hr1 hb1 hs1 hT1 hb2 q1
  by_cases hok : e.ok
  · rw [decide_eq_true hok]
    have Hok := Lib.hid hok
    have q2 : Hid (w2.rangeAt w.heap.size 0 (cells e.adr.1)) := fun j u hj => (row_range HR2.out) j u (by rw [Ent.get_adr e j (by have := (List.getElem?_eq_some_iff.1 hj).1; rw [cells_length, e.adr.2] at this; exact this)]; exact hj)
    obtain ⟨N, hN⟩ : ∃ N, w.heap.size = N := ⟨_, rfl⟩
    rw [hN] at HB2 HR2 hbl hgl q2 ⊢
    go_wp2_with ((with_reducible refine at_load 23 ?_); refine wpList_load_mid rfl 23 _ rfl N 0 rfl (cells e.adr.1) _ q2.out Try.underlying23 rfl HszA.out ?_)
    refine (tfind_any w2 b g c n hn l HT2.out Ht.out e.adr).mono ?_
    rintro r w3 ⟨v, rfl, hf, hb3⟩
    have hNs : N < w2.heap.size := HR2.out.lt
    have HT3 : Hid (TabAt w3 b g c n l) := HT2.out.later hb3
    have HR3 : Hid (RowV w3 N 32 e.cs) := HR2.out.below hNs hb3
    have HB3 : Hid (Below N w w3) := HB2.out.trans (hb3.mono (by omega))
    clear HT2 HR2 HB2 hb3 hNs q2
    rcases hf with ⟨k, f, rfl, hk, hc, ha⟩ | ⟨rfl, hno⟩
    · have hkn : k < n := by have := (List.getElem?_eq_some_iff.1 hk).1; rw [HT3.out.len] at this; exact this
      have hk' : (k : Int) < (n : Int) := by omega
      have hk0 : (0 : Int) ≤ (k : Int) := by omega
      have c0 := HT3.out.ptr.cell
      have HTd : Hid (TabAt w3.drew b g c n l) := HT3.out.drew
      have HRd : Hid (RowV w3.drew N 32 e.cs) := HR3.out.drew
      have HBd : Hid (Below N w w3.drew) := HB3.out.drew
      have hszd : N < w3.drew.heap.size := HR3.out.lt
      have qN := Lib.hid (row_range HRd.out)
      have hthere := HTd.out.there hkn
      have Hset := Lib.hid (HTd.out.set hkn e)
      obtain ⟨r1, r2, r3⟩ := Ht.out.replace hk hc Hok.out.real ha.symm
      have Hp : Hid (PutP n hn l e 0 (l.set k e)) := ⟨r1, .inr (.inl ⟨Hok.out, ⟨f, List.mem_of_getElem? hk, hc, ha⟩, rfl, r2, r3⟩)⟩
      clear HT3 HR3 HB3 r1 r2 r3 hk hc ha
      go_wp2_with fail
      refine wp_region_still_tail 7 (by kernel_rfl) (by kernel_rfl) ?_
      simp only [List.take_succ_cons, List.take_zero, List.drop_succ_cons, List.drop_zero]
      iterate 5 still_step
      refine wpStill_exec (.agg e.cs.toArray) rfl (by refine exec_load_mid 32 (.tmp 3) ?_ N 0 ?_ e.cs _ qN.out Try.underlying32 rfl Hse.out <;> rfl) ?_
      try simp only [Act.put, List.setIfInBounds_toArray, List.set_cons_zero, List.set_cons_succ]
      still_step
      refine wpStill_nil ?_
      change wpList _ _ _ _ _ w3.drew
      generalize w3.drew = wd at *
      go_wp2_with ((with_reducible refine at_store 32 ?_); refine wpList_store_midV rfl 32 _ _ rfl g (k * 34) e.cs rfl rfl (by rw [List.size_toArray, Ent.cs_length]; exact hthere) (by rw [List.size_toArray]; exact ent_size _) (all_oneCell_toArray (Ent.one _)) ?_; intro w4 hw4)
      go_ret
      have hg4 : wd.grownBy w4 (some g) := by rw [hw4]; exact Hset.out.2
      have hB : But [g] N w w4 := (But.of [g] HBd.out).grown hg4 (fun k e => by injection e with e; left; simp [e]) (by omega)
      exact ⟨0, _, rfl, Hset.out.1, Hp.out, by rw [hN, ← hw4]; exact hB⟩
    · have Hno := Lib.hid hno
      clear hno
      go_wp2_with fail
      refine (tsize_any w3 b g c n l HT3.out).mono ?_
      rintro r w4 ⟨rfl, hw⟩
      rw [hw]
      clear hw w4
      go_wp2_with fail
      refine (tlen_any w3 b g c n l HT3.out).mono ?_
      rintro r w4 ⟨rfl, hw⟩
      rw [hw]
      clear hw w4
      have hroom := Ht.out.room
      obtain ⟨m, hm⟩ : ∃ m, cntT l = m := ⟨_, rfl⟩
      rw [hm] at hroom ⊢
      by_cases hfull : n ≤ m + 1
      · have hd : decide ((n : Int) - (m : Int) ≤ 1) = true := decide_eq_true (by omega)
        have Hp : Hid (PutP n hn l e 6 l) := ⟨Ht.out, .inr (.inr (.inl ⟨Hok.out, Hno.out, by omega, rfl, rfl⟩))⟩
        go_wp2_with fail
        go_ret
        exact ⟨6, l, rfl, HT3.out, Hp.out, But.of _ (by rw [hN]; exact HB3.out)⟩
      · have hd : decide ((n : Int) - (m : Int) ≤ 1) = false := decide_eq_false (by omega)
        have q3 := Lib.hid (row_range HR3.out)
        have hroom2 : Hid (cntT l + 1 < n) := by show _ < _; omega
        go_wp2_with ((with_reducible refine at_load 32 ?_); refine wpList_load_mid rfl 32 _ rfl N 0 rfl e.cs _ q3.out Try.underlying32 rfl Hse.out ?_)
        refine (tinsert_any w3 b g c n hn l HT3.out Ht.out e Hok.out.real Hno.out hroom2.out).mono ?_
        rintro r w4 ⟨rfl, l', hT4, ht4, hc4, hm4, hB4⟩
        have Hp : Hid (PutP n hn l e 0 l') := ⟨ht4, .inr (.inr (.inr ⟨Hok.out, Hno.out, hroom2.out, rfl, hc4, fun x hx => ⟨fun hi => ((hm4 x).1 ⟨hi, hx⟩).imp (fun h => ⟨h.1, Hno.out x h.1 hx⟩) id, fun hi => ((hm4 x).2 (hi.imp (fun h => ⟨h.1, hx⟩) id)).1⟩⟩))⟩
        have HT4 := Lib.hid hT4
        have HB4 : Hid (But [g] N w w4) := (But.of [g] HB3.out).trans (hB4.less (by have := HR3.out.lt; omega))
        clear hT4 ht4 hc4 hm4 hB4
        go_wp2_with fail
        go_ret
        exact ⟨0, l', rfl, HT4.out, Hp.out, by rw [hN]; exact HB4.out⟩
  · rw [decide_eq_false hok]
    have Hp : Hid (PutP n hn l e 2 l) := ⟨Ht.out, .inl ⟨hok, rfl, rfl⟩⟩
    go_wp2_with fail
    go_ret
    exact ⟨2, l, rfl, HT2.out, Hp.out, But.of _ HB2.out⟩
end Go.Proofs.Ytkkllmjomdbndaa
