/-
  Layer 11: the contract of the reference's Put.
-/
import Derived.Test.YtkkllmjomdbndaaPkTabE
import Derived.Test.YtkkllmjomdbndaaPkTabQ
namespace Go.Proofs.Ytkkllmjomdbndaa
open Go.RowKit
set_option linter.unusedVariables false
set_option linter.unusedSimpArgs false

theorem range_below {w w' : World} {b o B : Nat} {cs : List Value} (h : w.rangeAt b o cs) (hB : Below B w w') (hb : b < B) : w'.rangeAt b o cs := fun j v hj => (hB.cell (p := ⟨b, o + j, none⟩) hb).trans (h j v hj)
/-- A row of entries, nil let in. -/
def RowE (w : World) (v : Value) (l : List Ent) : Prop := ∃ A c, v = .slice A l.length c ∧ l.length ≤ c ∧ LiesV w w.heap.size A (ents l)
theorem RowE.later {w w' : World} {v : Value} {l : List Ent} (h : RowE w v l) (hB : Below w.heap.size w w') : RowE w' v l := by
  obtain ⟨A, c, hv, hc, hl⟩ := h
  exact ⟨A, c, hv, hc, (hl.below hB).le hB.size⟩
theorem RowE.but {w w' : World} {v : Value} {l : List Ent} {L : List Nat} {B : Nat} (h : ∃ A c, v = .slice A l.length c ∧ l.length ≤ c ∧ LiesV w B A (ents l)) (hB : B ≤ w'.heap.size) (hk : ∀ p : Addr, p.block < B → w'.cell? p = w.cell? p) : RowE w' v l := by
  obtain ⟨A, c, hv, hc, hl⟩ := h
  exact ⟨A, c, hv, hc, (hl.keep hk).le hB⟩
theorem RowE.own {w : World} {base n : Nat} {v : Value} {l : List Ent} (h : w.ownsRow base 32 34 v n (ents l)) : RowE w v l := by
  obtain ⟨A, c, hv, hn, hc, _, hl⟩ := lies_ownE h
  subst hn
  exact ⟨A, c, hv, hc, hl⟩
theorem RowE.nil (w : World) : RowE w (.slice none 0 0) [] := ⟨none, 0, rfl, Nat.le_refl _, LiesV.nil _ _ _⟩
/-- What the reference's Put answers. -/
def RPutP (l : List Ent) (n : Nat) (e : Ent) (code : Int) (l' : List Ent) : Prop :=
  (¬ e.ok ∧ code = 2 ∧ l' = l) ∨ (e.ok ∧ (∃ f ∈ l, f.adr = e.adr) ∧ code = 0 ∧ l' = putR l e) ∨ (e.ok ∧ (∀ f ∈ l, f.adr ≠ e.adr) ∧ n ≤ l.length + 1 ∧ code = 6 ∧ l' = l) ∨ (e.ok ∧ (∀ f ∈ l, f.adr ≠ e.adr) ∧ l.length + 1 < n ∧ code = 0 ∧ l' = putR l e)

set_option maxRecDepth 100000 in
set_option maxHeartbeats 16000000 in
theorem rput_any (w : World) (v : Value) (l : List Ent) (tn : Nat) (e : Ent) (h : RowE w v l) (hd : Dst l) (hle : l.length ≤ 900) (htn : tn ≤ 1000) :
    Calls Try.prog 27 #[v, .int .i64 (tn : Int), e.val] w fun r w' => ∃ code l' v', r = .returned (.tuple #[v', .int .i64 code]) ∧ RowE w' v' l' ∧ (v' = v ∨ ∀ g, v'.ownBlock = some g → w.heap.size ≤ g) ∧ RPutP l tn e code l' ∧ Below w.heap.size w w' := by
  obtain ⟨A, c, rfl, hc, hl⟩ := h
  have HL := Lib.hid hl
  have Hd := Lib.hid hd
  have Hse := Lib.hid (ent_size e)
  have HszE := Lib.hid (adr_size e.adr)
  have HRow : Hid (∀ w', Below w.heap.size w w' → RowE w' (.slice A l.length c) l) := fun w' hb => ⟨A, c, rfl, hc, (hl.below hb).le hb.size⟩
  obtain ⟨n, hn⟩ : ∃ n, l.length = n := ⟨_, rfl⟩
  have Hn := Lib.hid hn
  rw [hn] at hc hle HRow ⊢
  clear hl hd hn
  go_enter Try.func27, Try.ntmps27
  go_wp2_with ((with_reducible refine at_box 32 ?_); refine wpList_box_rowV rfl 32 _ rfl e.cs rfl ?_)
  intro w1 hr1 hb1 hs1
  have q1 := Lib.hid (row_range hr1)
  go_wp2_with ((with_reducible refine at_load 32 ?_); refine wpList_load_mid rfl 32 _ rfl w.heap.size 0 rfl e.cs _ q1.out Try.underlying32 rfl Hse.out ?_)
  refine (rright_any w1 e).mono ?_
  rintro r w2 ⟨rfl, hb2⟩
  have HR2 : Hid (RowV w2 w.heap.size 32 e.cs) := hr1.below (by omega) hb2
  have HB2 : Hid (Below w.heap.size w w2) := hb1.trans (hb2.mono (by omega))
  have hs2 : w.heap.size + 1 ≤ w2.heap.size := by have := hb2.size; omega
  clear hr1 hb1 hs1 hb2 q1
  by_cases hok : e.ok
  · rw [decide_eq_true hok]
    have Hok := Lib.hid hok
    have q2 : Hid (w2.rangeAt w.heap.size 0 (cells e.adr.1)) := adr_of (row_range HR2.out)
    obtain ⟨N, hN⟩ : ∃ N, w.heap.size = N := ⟨_, rfl⟩
    have HL0 : Hid (LiesV w N A (ents l)) := by rw [← hN]; exact HL.out
    rw [hN] at HB2 HR2 q2 hs2 HRow ⊢
    have HL2 : Hid (LiesV w2 N A (ents l)) := HL0.out.below HB2.out
    clear hok
    go_wp2_with ((with_reducible refine at_load 23 ?_); refine wpList_load_mid rfl 23 _ rfl N 0 rfl (cells e.adr.1) _ q2.out Try.underlying23 rfl HszE.out ?_)
    refine (rfind_any w2 N n c A l e.adr HL2.out Hn.out.symm (by omega) (by omega) hc).mono ?_
    rintro r w3 ⟨⟨kk, rfl, hf⟩, hb3⟩
    have HR3 : Hid (RowV w3 N 32 e.cs) := HR2.out.below (by omega) hb3
    have HB3 : Hid (Below N w w3) := HB2.out.trans (hb3.mono (by omega))
    have hs3 : N + 1 ≤ w3.heap.size := by have := hb3.size; omega
    clear HR2 HB2 hb3 q2 HL2 hs2
    -- the table is full, or the list is walked
    have key : (kk < 0 ∧ tn ≤ n + 1 ∧ (∀ f ∈ l, f.adr ≠ e.adr)) ∨ (¬ (kk < 0 ∧ tn ≤ n + 1) ∧ (∀ l', l' = putR l e → RPutP l tn e 0 l') ∧ ∀ (i : Nat) (x : Ent), l[i]? = some x → (((i : Int) == kk) = decide (x.adr = e.adr))) := by
      rcases hf with ⟨k, f, rfl, hk, ha⟩ | ⟨rfl, hno⟩
      · refine .inr ⟨by omega, fun l' h => .inr (.inl ⟨Hok.out, ⟨f, List.mem_of_getElem? hk, ha⟩, rfl, h⟩), fun i x hx => ?_⟩
        rw [Bool.eq_iff_iff, beq_iff_eq, decide_eq_true_eq]
        constructor
        · intro h
          have : i = k := by omega
          subst this
          rw [hk] at hx
          cases hx
          exact ha
        · intro h
          have hij : ∀ (i j : Nat) (x y : Ent), i < j → l[i]? = some x → l[j]? = some y → x.adr ≠ y.adr := by
            intro i j x y hij h1 h2
            obtain ⟨a1, rfl⟩ := List.getElem?_eq_some_iff.1 h1
            obtain ⟨b1, rfl⟩ := List.getElem?_eq_some_iff.1 h2
            exact List.pairwise_iff_getElem.1 Hd.out i j a1 b1 hij
          rcases Nat.lt_trichotomy i k with h1 | h1 | h1
          · exact absurd (h.trans ha.symm) (hij i k x f h1 hx hk)
          · omega
          · exact absurd (ha.trans h.symm) (hij k i f x h1 hk hx)
      · by_cases hfull : tn ≤ n + 1
        · exact .inl ⟨by decide, hfull, hno⟩
        · refine .inr ⟨fun h => hfull h.2, fun l' h => .inr (.inr (.inr ⟨Hok.out, hno, by rw [Hn.out]; omega, rfl, h⟩)), fun i x hx => ?_⟩
          have h1 := hno x (List.mem_of_getElem? hx)
          rw [decide_eq_false h1, beq_eq_false_iff_ne]
          omega
    clear hf
    rcases key with ⟨h1, h2, h3⟩ | ⟨h1, h2, h3⟩
    · have hd1 : decide (kk < 0) = true := decide_eq_true h1
      have hd2 : decide ((tn : Int) ≤ (n : Int) + 1) = true := decide_eq_true (by omega)
      have hd3 : decide ((n : Int) + 1 ≥ (tn : Int)) = true := decide_eq_true (by omega)
      have Hp : Hid (RPutP l tn e 6 l) := .inr (.inr (.inl ⟨Hok.out, h3, by rw [Hn.out]; omega, rfl, rfl⟩))
      clear h3
      go_wp2_with fail
      go_ret2
      exact ⟨6, l, _, rfl, HRow.out _ HB3.out, .inl rfl, Hp.out, by rw [hN]; exact HB3.out⟩
    · have H2 := Lib.hid h2
      have H3 := Lib.hid h3
      have hd1 : decide (kk < 0) = true → decide ((tn : Int) ≤ (n : Int) + 1) = false := fun h => decide_eq_false (by have := of_decide_eq_true h; omega)
      clear h2 h3
      by_cases hk : kk < 0
      · have hd2 : decide (kk < 0) = true := decide_eq_true hk
        have hd3 : decide ((tn : Int) ≤ (n : Int) + 1) = false := hd1 hd2
        have hd4 : decide ((n : Int) + 1 ≥ (tn : Int)) = false := hd3
        clear hd1 h1
        go_wp2_with fail
        have HO0 : Hid (w3.ownsRow (N + 1) 32 34 (.slice none 0 0) 0 (ents [])) := World.ownsRow_nil _ _ _ _
        have lenF : ∀ {k : Nat} {o : List Ent} {p : Bool}, foldR e (l.take k) = (o, p) → o.length ≤ k + 1 := by
          intro k o p h
          have h1 := foldR_len e (l.take k)
          rw [h] at h1
          have h2 : (l.take k).countP (fun x => decide (x.adr ≠ e.adr)) ≤ (l.take k).length := List.countP_le_length
          rw [List.length_take] at h2
          simp only at h1
          split at h1 <;> omega
        go_loopw [9, 10, 11] (fun v9 v10 v W => ∃ (k : Nat) (o : List Ent) (p : Bool), k ≤ n ∧ v = .int .i64 k ∧ v10 = .bool p ∧ Hid (foldR e (l.take k) = (o, p)) ∧ Hid (o.length ≤ k + 1) ∧ Hid (W.ownsRow (N + 1) 32 34 v9 o.length (ents o)) ∧ Hid (RowV W N 32 e.cs) ∧ Hid (Below N w W) ∧ Hid (N + 1 ≤ W.heap.size)) (fun _ _ v _ => n - (intOf v).toNat)
        case atStart => exact ⟨0, [], false, Nat.zero_le _, rfl, rfl, rfl, by show _ ≤ _; simp, HO0, HR3, HB3, hs3⟩
        case round =>
          obtain ⟨k, o, p, hk, rfl, rfl, HF, HLn, HO, HR, HB, HZ⟩ := hrel
          clear HO0 HR3 HB3 hs3
          have hlo0 : o.length ≤ k + 1 := HLn.out
          by_cases hlt : k < n
          · have hlt' : (k : Int) < (n : Int) := by omega
            have hk0 : (0 : Int) ≤ (k : Int) := by omega
            obtain ⟨x, hx⟩ : ∃ x, l[k]? = some x := ⟨_, List.getElem?_eq_getElem (by rw [Hn.out]; exact hlt)⟩
            obtain ⟨b1, o1, hA1, hb1, hr1⟩ := lies_ent (HL0.out.below HB.out) hx
            subst hA1
            have Hx := Lib.hid hx
            have Rf := Lib.hid hr1
            have Rx := Lib.hid (adr_of hr1)
            have Hsx := Lib.hid (ent_size x)
            have HszX := Lib.hid (adr_size x.adr)
            have hz := HZ.out
            clear hx hr1
            cases p
            · go_wp2_with fail
              obtain ⟨wd, hwd⟩ : ∃ wd, wr.drew = wd := ⟨_, rfl⟩
              have hSc : Below wd.heap.size wd wr.drew := by rw [hwd]; exact Below.refl _ _
              refine wp_region_held_drew (S := fun W => Below wd.heap.size wd W) (by kernel_rfl) hSc (fun hHeld => ?_)
              have HOd : Hid (wr.drew.ownsRow (N + 1) 32 34 u9 o.length (ents o)) := HO.out.drew
              have HRd : Hid (RowV wr.drew N 32 e.cs) := HR.out.drew
              have HBd : Hid (Below N w wr.drew) := HB.out.drew
              have r1 : Hid (wr.drew.rangeAt b1 (o1 + k * 34) (cells x.adr.1)) := Rx.out
              have r2 : Hid (wr.drew.rangeAt b1 (o1 + k * 34) x.cs) := Rf.out
              have hzd : N + 1 ≤ wr.drew.heap.size := hz
              rw [hwd] at hSc hHeld HOd HRd HBd r1 r2 hzd ⊢
              clear hwd HO HR HB Rx Rf hz
              have hb1d : b1 < wd.heap.size := by omega
              have hNd : N < wd.heap.size := by omega
              have q5 : Hid (wd.rangeAt N 0 (cells e.adr.1)) := adr_of (row_range HRd.out)
              refine wpAnyH_take (i := 0) (oi := ⟨_, _, _, _, _, _⟩) (v := ?_) rfl (by kernel_rfl) (by kernel_rfl) (by kernel_rfl) (fun _ _ _ h => h) (Or.inl ⟨by rfl, ?_⟩) (by assumption) ?_
              rotate_left
              · intro W hSW; go_simp; try with_reducible rfl
              try simp only [Act.put, List.setIfInBounds_toArray, List.set_cons_zero, List.set_cons_succ]
              refine wpAnyH_take (i := 1) (oi := ⟨_, _, _, _, _, _⟩) (v := ?_) rfl (by kernel_rfl) (by kernel_rfl) (by kernel_rfl) (fun _ _ _ h => h) (Or.inl ⟨by rfl, ?_⟩) (by assumption) ?_
              rotate_left
              · intro W hSW; go_simp; try with_reducible rfl
              try simp only [Act.put, List.setIfInBounds_toArray, List.set_cons_zero, List.set_cons_succ]
              refine wpAnyH_take (i := 2) (oi := ⟨_, _, _, _, _, _⟩) (v := ?_) rfl (by kernel_rfl) (by kernel_rfl) (by kernel_rfl) (fun _ _ _ h => h) (Or.inl ⟨by rfl, ?_⟩) (by assumption) ?_
              rotate_left
              · intro W hSW; go_simp; try with_reducible rfl
              try simp only [Act.put, List.setIfInBounds_toArray, List.set_cons_zero, List.set_cons_succ]
              refine wpAnyH_take (i := 3) (oi := ⟨_, _, _, _, _, _⟩) (v := ?_) rfl (by kernel_rfl) (by kernel_rfl) (by kernel_rfl) (fun _ _ _ h => h) (Or.inl ⟨by rfl, ?_⟩) (by assumption) ?_
              rotate_left
              · intro W hSW; go_simp; try with_reducible rfl
              try simp only [Act.put, List.setIfInBounds_toArray, List.set_cons_zero, List.set_cons_succ]
              refine wpAnyH_take (i := 4) (oi := ⟨_, _, _, _, _, _⟩) (v := ?_) rfl (by kernel_rfl) (by kernel_rfl) (by kernel_rfl) (fun _ _ _ h => h) (Or.inl ⟨by rfl, ?_⟩) (by assumption) ?_
              rotate_left
              · intro W hSW; go_simp; try with_reducible rfl
              try simp only [Act.put, List.setIfInBounds_toArray, List.set_cons_zero, List.set_cons_succ]
              refine wpAnyH_take (i := 5) (oi := ⟨_, _, _, _, _, _⟩) (v := ?_) rfl (by kernel_rfl) (by kernel_rfl) (by kernel_rfl) (fun _ _ _ h => h) (Or.inl ⟨by rfl, ?_⟩) (by assumption) ?_
              rotate_left
              · intro W hSW; go_simp; try with_reducible rfl
              try simp only [Act.put, List.setIfInBounds_toArray, List.set_cons_zero, List.set_cons_succ]
              refine wpAnyH_take (i := 6) (oi := ⟨_, _, _, _, _, _⟩) (v := ?_) rfl (by kernel_rfl) (by kernel_rfl) (by kernel_rfl) (fun _ _ _ h => h) (Or.inl ⟨by rfl, ?_⟩) (by assumption) ?_
              rotate_left
              · intro W hSW; go_simp; try with_reducible rfl
              try simp only [Act.put, List.setIfInBounds_toArray, List.set_cons_zero, List.set_cons_succ]
              refine wpAnyH_take (i := 7) (oi := ⟨_, _, _, _, _, _⟩) (v := ?_) rfl (by kernel_rfl) (by kernel_rfl) (by kernel_rfl) (fun _ _ _ h => h) (Or.inl ⟨by rfl, ?_⟩) (by assumption) ?_
              rotate_left
              · intro W hSW; refine exec_load_mid 23 (.tmp 42) ?_ b1 (o1 + k * 34) ?_ (cells x.adr.1) _ (range_below r1.out hSW hb1d) Try.underlying23 rfl HszX.out <;> rfl
              try simp only [Act.put, List.setIfInBounds_toArray, List.set_cons_zero, List.set_cons_succ]
              refine wpAnyH_take (i := 8) (oi := ⟨_, _, _, _, _, _⟩) (v := ?_) rfl (by kernel_rfl) (by kernel_rfl) (by kernel_rfl) (fun _ _ _ h => h) (Or.inl ⟨by rfl, ?_⟩) (by assumption) ?_
              rotate_left
              · intro W hSW; go_simp; try with_reducible rfl
              try simp only [Act.put, List.setIfInBounds_toArray, List.set_cons_zero, List.set_cons_succ]
              refine wpAnyH_take (i := 9) (oi := ⟨_, _, _, _, _, _⟩) (v := ?_) rfl (by kernel_rfl) (by kernel_rfl) (by kernel_rfl) (fun _ _ _ h => h) (Or.inl ⟨by rfl, ?_⟩) (by assumption) ?_
              rotate_left
              · intro W hSW; refine exec_load_mid 23 (.tmp 44) ?_ N 0 ?_ (cells e.adr.1) _ (range_below q5.out hSW hNd) Try.underlying23 rfl HszE.out <;> rfl
              try simp only [Act.put, List.setIfInBounds_toArray, List.set_cons_zero, List.set_cons_succ]
              refine wpAnyH_ready (rs := [10]) (by kernel_rfl) (by simp) ?_
              refine AllReadyH.cons (o := ⟨_, _, _, _, _, _⟩) rfl (fun K hK => ?_) AllReadyH.nil
              go_simp
              refine (rless_any x.adr.1 e.adr.1 x.adr.2 e.adr.2 _).mono ?_
              rintro e wx ⟨rfl, hb⟩
              try simp only []
              have hSwx := hSc.trans (hb.mono hSc.size)
              refine hK.out _ _ hSwx (fun hHeld => ?_)
              clear hK K hb hSc
              have hSc := hSwx
              clear hSwx
              try simp only [Act.put, List.setIfInBounds_toArray, List.set_cons_zero, List.set_cons_succ]
              refine wpAnyH_take (i := 11) (oi := ⟨_, _, _, _, _, _⟩) (v := ?_) rfl (by kernel_rfl) (by kernel_rfl) (by kernel_rfl) (fun _ _ _ h => h) (Or.inl ⟨by rfl, ?_⟩) (by assumption) ?_
              rotate_left
              · intro W hSW; go_simp; try with_reducible rfl
              try simp only [Act.put, List.setIfInBounds_toArray, List.set_cons_zero, List.set_cons_succ]
              refine wpAnyH_take (i := 12) (oi := ⟨_, _, _, _, _, _⟩) (v := ?_) rfl (by kernel_rfl) (by kernel_rfl) (by kernel_rfl) (fun _ _ _ h => h) (Or.inl ⟨by rfl, ?_⟩) (by assumption) ?_
              rotate_left
              · intro W hSW; go_simp; try with_reducible rfl
              try simp only [Act.put, List.setIfInBounds_toArray, List.set_cons_zero, List.set_cons_succ]
              refine wpAnyH_done (by kernel_rfl) ?_ _
              have HO2 : Hid (wx.ownsRow (N + 1) 32 34 u9 o.length (ents o)) := own_below HOd.out hSc
              have HR2 : Hid (RowV wx N 32 e.cs) := HRd.out.below hNd hSc
              have HB2 : Hid (Below N w wx) := HBd.out.trans (hSc.mono (by omega))
              have R2 := Lib.hid (range_below r2.out hSc hb1d)
              have hz2 : N + 1 ≤ wx.heap.size := by have := hSc.size; omega
              have QE := Lib.hid (row_range HR2.out)
              clear HOd HRd HBd r1 r2 q5 hSc hb1d hNd hzd hHeld
              cases hless : Op.bytesLess x.adr.1 e.adr.1
              · have hlo : o.length + 1 ≤ k + 2 := by omega
                have ha : x.adr ≠ e.adr := fun h => by have := H3.out k x Hx.out; rw [decide_eq_true h, beq_iff_eq] at this; omega
                have hkk : ((k : Int) == kk) = false := by rw [H3.out k x Hx.out]; exact decide_eq_false ha
                have hkk2 : ¬ ((k : Int) = kk) := by rw [beq_eq_false_iff_ne] at hkk; exact hkk
                have HF1 : Hid (foldR e (l.take (k + 1)) = (o ++ [e] ++ [x], true)) := by
                  show _ = _
                  rw [take_snoc Hx.out, foldR_snoc, HF.out]
                  rw [stepR_put ⟨rfl, hless⟩, if_neg ha]
                have HLn1 : Hid ((o ++ [e] ++ [x]).length ≤ k + 1 + 1) := lenF HF1.out
                have hlo : (o ++ [e]).length ≤ k + 2 := by (simp only [List.length_append, List.length_singleton]; omega)
                go_wp2_with (first
                  | ((with_reducible refine at_load 32 ?_); refine wpList_load_mid rfl 32 _ rfl N 0 rfl e.cs _ QE.out Try.underlying32 rfl Hse.out ?_)
                  | ((with_reducible refine at_buildSlice 26 ?_); refine wpList_buildSlice_oneV rfl 26 32 _ rfl e.cs rfl Try.underlying26 Try.infoE (Ent.cs_length _) (by decide) (by decide) ?_; intro waA hraA hbaA hsaA; have HOaA := Lib.hid (own_below HO2.out hbaA))
                  | (at_builtin; refine wpList_append_one rfl _ _ 26 rfl (N + 1) 32 Try.underlying26 Try.infoE rfl (by decide) _ _ _ rfl HOaA.out _ e.cs rfl hraA (Ent.cs_length _) (Ent.one _) (by unfold maxLen; omega) (by omega) (by omega) ?_; intro vA wbA hownbA hgbA hwhbA; have HOA : Hid (wbA.ownsRow (N + 1) 32 34 vA (o ++ [e]).length (ents (o ++ [e]))) := (by rw [List.length_append, ents_snoc]; exact hownbA); have HB0A : Hid (Below N wx wbA) := (hbaA.mono (by omega)).grown hgbA (by omega) (fun g e => by have := own_ge HOaA.out g e; omega); have HRA : Hid (RowV wbA N 32 e.cs) := (HR2.out.below (by omega) hbaA).keep hgbA (fun e => by have := own_ge HOaA.out _ e; omega); have HBA : Hid (Below N w wbA) := HB2.out.trans HB0A.out; have HZA : N + 1 ≤ wbA.heap.size := (by have := hgbA.size; omega); have RA := Lib.hid (range_below R2.out HB0A.out hb1); clear hownbA hgbA hwhbA)
                  | ((with_reducible refine at_load 32 ?_); refine wpList_load_mid rfl 32 _ rfl b1 (o1 + k * 34) rfl x.cs _ RA.out Try.underlying32 rfl Hsx.out ?_)
                  | ((with_reducible refine at_buildSlice 26 ?_); refine wpList_buildSlice_oneV rfl 26 32 _ rfl x.cs rfl Try.underlying26 Try.infoE (Ent.cs_length _) (by decide) (by decide) ?_; intro waB hraB hbaB hsaB; have HOaB := Lib.hid (own_below HOA.out hbaB))
                  | (at_builtin; refine wpList_append_one rfl _ _ 26 rfl (N + 1) 32 Try.underlying26 Try.infoE rfl (by decide) _ _ _ rfl HOaB.out _ x.cs rfl hraB (Ent.cs_length _) (Ent.one _) (by unfold maxLen; omega) (by omega) (by omega) ?_; intro vB wbB hownbB hgbB hwhbB; have HOB : Hid (wbB.ownsRow (N + 1) 32 34 vB (o ++ [e] ++ [x]).length (ents (o ++ [e] ++ [x]))) := (by rw [List.length_append, ents_snoc]; exact hownbB); have HB0B : Hid (Below N wbA wbB) := (hbaB.mono (by omega)).grown hgbB (by omega) (fun g e => by have := own_ge HOaB.out g e; omega); have HRB : Hid (RowV wbB N 32 e.cs) := (HRA.out.below (by omega) hbaB).keep hgbB (fun e => by have := own_ge HOaB.out _ e; omega); have HBB : Hid (Below N w wbB) := HBA.out.trans HB0B.out; have HZB : N + 1 ≤ wbB.heap.size := (by have := hgbB.size; omega); clear hownbB hgbB hwhbB))
                go_roundw
                case rel => exact ⟨k + 1, o ++ [e] ++ [x], true, by omega, by go_num, rfl, HF1, HLn1, HOB, HRB, HBB, HZB⟩
                case measure => simp [intOf]; omega
              · skip
                have ha : x.adr ≠ e.adr := fun h => by have := H3.out k x Hx.out; rw [decide_eq_true h, beq_iff_eq] at this; omega
                have hkk : ((k : Int) == kk) = false := by rw [H3.out k x Hx.out]; exact decide_eq_false ha
                have hkk2 : ¬ ((k : Int) = kk) := by rw [beq_eq_false_iff_ne] at hkk; exact hkk
                have HF1 : Hid (foldR e (l.take (k + 1)) = (o ++ [x], false)) := by
                  show _ = _
                  rw [take_snoc Hx.out, foldR_snoc, HF.out]
                  rw [stepR_keep (by rw [hless]; simp), if_neg ha]
                have HLn1 : Hid ((o ++ [x]).length ≤ k + 1 + 1) := lenF HF1.out
                have hlo : (o).length ≤ k + 2 := by omega
                go_wp2_with (first
                  | ((with_reducible refine at_load 32 ?_); refine wpList_load_mid rfl 32 _ rfl b1 (o1 + k * 34) rfl x.cs _ R2.out Try.underlying32 rfl Hsx.out ?_)
                  | ((with_reducible refine at_buildSlice 26 ?_); refine wpList_buildSlice_oneV rfl 26 32 _ rfl x.cs rfl Try.underlying26 Try.infoE (Ent.cs_length _) (by decide) (by decide) ?_; intro waB hraB hbaB hsaB; have HOaB := Lib.hid (own_below HO2.out hbaB))
                  | (at_builtin; refine wpList_append_one rfl _ _ 26 rfl (N + 1) 32 Try.underlying26 Try.infoE rfl (by decide) _ _ _ rfl HOaB.out _ x.cs rfl hraB (Ent.cs_length _) (Ent.one _) (by unfold maxLen; omega) (by omega) (by omega) ?_; intro vB wbB hownbB hgbB hwhbB; have HOB : Hid (wbB.ownsRow (N + 1) 32 34 vB (o ++ [x]).length (ents (o ++ [x]))) := (by rw [List.length_append, ents_snoc]; exact hownbB); have HB0B : Hid (Below N wx wbB) := (hbaB.mono (by omega)).grown hgbB (by omega) (fun g e => by have := own_ge HOaB.out g e; omega); have HRB : Hid (RowV wbB N 32 e.cs) := (HR2.out.below (by omega) hbaB).keep hgbB (fun e => by have := own_ge HOaB.out _ e; omega); have HBB : Hid (Below N w wbB) := HB2.out.trans HB0B.out; have HZB : N + 1 ≤ wbB.heap.size := (by have := hgbB.size; omega); clear hownbB hgbB hwhbB))
                go_roundw
                case rel => exact ⟨k + 1, o ++ [x], false, by omega, by go_num, rfl, HF1, HLn1, HOB, HRB, HBB, HZB⟩
                case measure => simp [intOf]; omega
            · go_wp2_with fail
              obtain ⟨wd, hwd⟩ : ∃ wd, wr.drew = wd := ⟨_, rfl⟩
              have hSc : Below wd.heap.size wd wr.drew := by rw [hwd]; exact Below.refl _ _
              refine wp_region_held_drew (S := fun W => Below wd.heap.size wd W) (by kernel_rfl) hSc (fun hHeld => ?_)
              have HOd : Hid (wr.drew.ownsRow (N + 1) 32 34 u9 o.length (ents o)) := HO.out.drew
              have HRd : Hid (RowV wr.drew N 32 e.cs) := HR.out.drew
              have HBd : Hid (Below N w wr.drew) := HB.out.drew
              have r1 : Hid (wr.drew.rangeAt b1 (o1 + k * 34) (cells x.adr.1)) := Rx.out
              have r2 : Hid (wr.drew.rangeAt b1 (o1 + k * 34) x.cs) := Rf.out
              have hzd : N + 1 ≤ wr.drew.heap.size := hz
              rw [hwd] at hSc hHeld HOd HRd HBd r1 r2 hzd ⊢
              clear hwd HO HR HB Rx Rf hz
              have hb1d : b1 < wd.heap.size := by omega
              have hNd : N < wd.heap.size := by omega
              have q5 : Hid (wd.rangeAt N 0 (cells e.adr.1)) := adr_of (row_range HRd.out)
              refine wpAnyH_take (i := 0) (oi := ⟨_, _, _, _, _, _⟩) (v := ?_) rfl (by kernel_rfl) (by kernel_rfl) (by kernel_rfl) (fun _ _ _ h => h) (Or.inl ⟨by rfl, ?_⟩) (by assumption) ?_
              rotate_left
              · intro W hSW; go_simp; try with_reducible rfl
              try simp only [Act.put, List.setIfInBounds_toArray, List.set_cons_zero, List.set_cons_succ]
              refine wpAnyH_take (i := 1) (oi := ⟨_, _, _, _, _, _⟩) (v := ?_) rfl (by kernel_rfl) (by kernel_rfl) (by kernel_rfl) (fun _ _ _ h => h) (Or.inl ⟨by rfl, ?_⟩) (by assumption) ?_
              rotate_left
              · intro W hSW; go_simp; try with_reducible rfl
              try simp only [Act.put, List.setIfInBounds_toArray, List.set_cons_zero, List.set_cons_succ]
              refine wpAnyH_take (i := 2) (oi := ⟨_, _, _, _, _, _⟩) (v := ?_) rfl (by kernel_rfl) (by kernel_rfl) (by kernel_rfl) (fun _ _ _ h => h) (Or.inl ⟨by rfl, ?_⟩) (by assumption) ?_
              rotate_left
              · intro W hSW; go_simp; try with_reducible rfl
              try simp only [Act.put, List.setIfInBounds_toArray, List.set_cons_zero, List.set_cons_succ]
              refine wpAnyH_take (i := 3) (oi := ⟨_, _, _, _, _, _⟩) (v := undef) rfl (by kernel_rfl) (by kernel_rfl) (by kernel_rfl) (fun _ _ _ h => h) (Or.inr ⟨by rfl, rfl⟩) (by assumption) ?_
              try simp only [Act.put, List.setIfInBounds_toArray, List.set_cons_zero, List.set_cons_succ]
              refine wpAnyH_take (i := 4) (oi := ⟨_, _, _, _, _, _⟩) (v := undef) rfl (by kernel_rfl) (by kernel_rfl) (by kernel_rfl) (fun _ _ _ h => h) (Or.inr ⟨by rfl, rfl⟩) (by assumption) ?_
              try simp only [Act.put, List.setIfInBounds_toArray, List.set_cons_zero, List.set_cons_succ]
              refine wpAnyH_take (i := 5) (oi := ⟨_, _, _, _, _, _⟩) (v := undef) rfl (by kernel_rfl) (by kernel_rfl) (by kernel_rfl) (fun _ _ _ h => h) (Or.inr ⟨by rfl, rfl⟩) (by assumption) ?_
              try simp only [Act.put, List.setIfInBounds_toArray, List.set_cons_zero, List.set_cons_succ]
              refine wpAnyH_take (i := 6) (oi := ⟨_, _, _, _, _, _⟩) (v := undef) rfl (by kernel_rfl) (by kernel_rfl) (by kernel_rfl) (fun _ _ _ h => h) (Or.inr ⟨by rfl, rfl⟩) (by assumption) ?_
              try simp only [Act.put, List.setIfInBounds_toArray, List.set_cons_zero, List.set_cons_succ]
              refine wpAnyH_take (i := 7) (oi := ⟨_, _, _, _, _, _⟩) (v := undef) rfl (by kernel_rfl) (by kernel_rfl) (by kernel_rfl) (fun _ _ _ h => h) (Or.inr ⟨by rfl, rfl⟩) (by assumption) ?_
              try simp only [Act.put, List.setIfInBounds_toArray, List.set_cons_zero, List.set_cons_succ]
              refine wpAnyH_take (i := 8) (oi := ⟨_, _, _, _, _, _⟩) (v := undef) rfl (by kernel_rfl) (by kernel_rfl) (by kernel_rfl) (fun _ _ _ h => h) (Or.inr ⟨by rfl, rfl⟩) (by assumption) ?_
              try simp only [Act.put, List.setIfInBounds_toArray, List.set_cons_zero, List.set_cons_succ]
              refine wpAnyH_take (i := 9) (oi := ⟨_, _, _, _, _, _⟩) (v := undef) rfl (by kernel_rfl) (by kernel_rfl) (by kernel_rfl) (fun _ _ _ h => h) (Or.inr ⟨by rfl, rfl⟩) (by assumption) ?_
              try simp only [Act.put, List.setIfInBounds_toArray, List.set_cons_zero, List.set_cons_succ]
              refine wpAnyH_take (i := 10) (oi := ⟨_, _, _, _, _, _⟩) (v := undef) rfl (by kernel_rfl) (by kernel_rfl) (by kernel_rfl) (fun _ _ _ h => h) (Or.inr ⟨by rfl, rfl⟩) (by assumption) ?_
              try simp only [Act.put, List.setIfInBounds_toArray, List.set_cons_zero, List.set_cons_succ]
              refine wpAnyH_take (i := 11) (oi := ⟨_, _, _, _, _, _⟩) (v := undef) rfl (by kernel_rfl) (by kernel_rfl) (by kernel_rfl) (fun _ _ _ h => h) (Or.inr ⟨by rfl, rfl⟩) (by assumption) ?_
              try simp only [Act.put, List.setIfInBounds_toArray, List.set_cons_zero, List.set_cons_succ]
              refine wpAnyH_take (i := 12) (oi := ⟨_, _, _, _, _, _⟩) (v := ?_) rfl (by kernel_rfl) (by kernel_rfl) (by kernel_rfl) (fun _ _ _ h => h) (Or.inl ⟨by rfl, ?_⟩) (by assumption) ?_
              rotate_left
              · intro W hSW; go_simp; try with_reducible rfl
              try simp only [Act.put, List.setIfInBounds_toArray, List.set_cons_zero, List.set_cons_succ]
              refine wpAnyH_done (by kernel_rfl) ?_ _
              obtain ⟨wx, hwx⟩ : ∃ wx, wd = wx := ⟨_, rfl⟩
              have hSx : Below wd.heap.size wd wd := Below.refl _ _
              clear r1 q5 hSc hSx hwx hHeld
              have hz2 : N + 1 ≤ wd.heap.size := hzd
              have ha : x.adr ≠ e.adr := fun h => by have := H3.out k x Hx.out; rw [decide_eq_true h, beq_iff_eq] at this; omega
              have hkk : ((k : Int) == kk) = false := by rw [H3.out k x Hx.out]; exact decide_eq_false ha
              have hkk2 : ¬ ((k : Int) = kk) := by rw [beq_eq_false_iff_ne] at hkk; exact hkk
              have HF1 : Hid (foldR e (l.take (k + 1)) = (o ++ [x], true)) := by
                show _ = _
                rw [take_snoc Hx.out, foldR_snoc, HF.out]
                rw [stepR_keep (by simp), if_neg ha]
              have HLn1 : Hid ((o ++ [x]).length ≤ k + 1 + 1) := lenF HF1.out
              have hlo : (o).length ≤ k + 2 := by omega
              go_wp2_with (first
                | ((with_reducible refine at_load 32 ?_); refine wpList_load_mid rfl 32 _ rfl b1 (o1 + k * 34) rfl x.cs _ r2.out Try.underlying32 rfl Hsx.out ?_)
                | ((with_reducible refine at_buildSlice 26 ?_); refine wpList_buildSlice_oneV rfl 26 32 _ rfl x.cs rfl Try.underlying26 Try.infoE (Ent.cs_length _) (by decide) (by decide) ?_; intro waB hraB hbaB hsaB; have HOaB := Lib.hid (own_below HOd.out hbaB))
                | (at_builtin; refine wpList_append_one rfl _ _ 26 rfl (N + 1) 32 Try.underlying26 Try.infoE rfl (by decide) _ _ _ rfl HOaB.out _ x.cs rfl hraB (Ent.cs_length _) (Ent.one _) (by unfold maxLen; omega) (by omega) (by omega) ?_; intro vB wbB hownbB hgbB hwhbB; have HOB : Hid (wbB.ownsRow (N + 1) 32 34 vB (o ++ [x]).length (ents (o ++ [x]))) := (by rw [List.length_append, ents_snoc]; exact hownbB); have HB0B : Hid (Below N wd wbB) := (hbaB.mono (by omega)).grown hgbB (by omega) (fun g e => by have := own_ge HOaB.out g e; omega); have HRB : Hid (RowV wbB N 32 e.cs) := (HRd.out.below (by omega) hbaB).keep hgbB (fun e => by have := own_ge HOaB.out _ e; omega); have HBB : Hid (Below N w wbB) := HBd.out.trans HB0B.out; have HZB : N + 1 ≤ wbB.heap.size := (by have := hgbB.size; omega); clear hownbB hgbB hwhbB))
              go_roundw
              case rel => exact ⟨k + 1, o ++ [x], true, by omega, by go_num, rfl, HF1, HLn1, HOB, HRB, HBB, HZB⟩
              case measure => simp [intOf]; omega
          · obtain rfl : k = n := by omega
            have hfin : foldR e l = (o, p) := by have := HF.out; rw [List.take_of_length_le (by rw [Hn.out]; exact Nat.le_refl _)] at this; exact this
            have QE := Lib.hid (row_range HR.out)
            have hz2 := HZ.out
            cases p
            · have Hp : Hid (RPutP l tn e 0 (o ++ [e])) := H2.out _ (by unfold putR endR; rw [hfin]; rfl)
              clear hfin
              go_wp2_with (first
                | ((with_reducible refine at_load 32 ?_); refine wpList_load_mid rfl 32 _ rfl N 0 rfl e.cs _ QE.out Try.underlying32 rfl Hse.out ?_)
                | ((with_reducible refine at_buildSlice 26 ?_); refine wpList_buildSlice_oneV rfl 26 32 _ rfl e.cs rfl Try.underlying26 Try.infoE (Ent.cs_length _) (by decide) (by decide) ?_; intro waA hraA hbaA hsaA; have HOaA := Lib.hid (own_below HO.out hbaA))
                | (at_builtin; refine wpList_append_one rfl _ _ 26 rfl (N + 1) 32 Try.underlying26 Try.infoE rfl (by decide) _ _ _ rfl HOaA.out _ e.cs rfl hraA (Ent.cs_length _) (Ent.one _) (by unfold maxLen; omega) (by omega) (by omega) ?_; intro vA wbA hownbA hgbA hwhbA; have HOA : Hid (wbA.ownsRow (N + 1) 32 34 vA (o ++ [e]).length (ents (o ++ [e]))) := (by rw [List.length_append, ents_snoc]; exact hownbA); have HB0A : Hid (Below N wr wbA) := (hbaA.mono (by omega)).grown hgbA (by omega) (fun g e => by have := own_ge HOaA.out g e; omega); have HRA : Hid (RowV wbA N 32 e.cs) := (HR.out.below (by omega) hbaA).keep hgbA (fun e => by have := own_ge HOaA.out _ e; omega); have HBA : Hid (Below N w wbA) := HB.out.trans HB0A.out; have HZA : N + 1 ≤ wbA.heap.size := (by have := hgbA.size; omega); clear hownbA hgbA hwhbA))
              go_ret2
              exact ⟨0, o ++ [e], _, rfl, RowE.own HOA.out, .inr (fun g e => by have : N + 1 ≤ g := own_ge HOA.out g e; omega), Hp.out, by rw [hN]; exact HBA.out⟩
            · have Hp : Hid (RPutP l tn e 0 o) := H2.out _ (by unfold putR endR; rw [hfin]; rfl)
              clear hfin
              go_wp2_with fail
              go_ret2
              exact ⟨0, o, _, rfl, RowE.own HO.out, .inr (fun g e => by have : N + 1 ≤ g := own_ge HO.out g e; omega), Hp.out, by rw [hN]; exact HB.out⟩
      · have hd2 : decide (kk < 0) = false := decide_eq_false hk
        clear hd1 h1
        go_wp2_with fail
        have HO0 : Hid (w3.ownsRow (N + 1) 32 34 (.slice none 0 0) 0 (ents [])) := World.ownsRow_nil _ _ _ _
        have lenF : ∀ {k : Nat} {o : List Ent} {p : Bool}, foldR e (l.take k) = (o, p) → o.length ≤ k + 1 := by
          intro k o p h
          have h1 := foldR_len e (l.take k)
          rw [h] at h1
          have h2 : (l.take k).countP (fun x => decide (x.adr ≠ e.adr)) ≤ (l.take k).length := List.countP_le_length
          rw [List.length_take] at h2
          simp only at h1
          split at h1 <;> omega
        go_loopw [9, 10, 11] (fun v9 v10 v W => ∃ (k : Nat) (o : List Ent) (p : Bool), k ≤ n ∧ v = .int .i64 k ∧ v10 = .bool p ∧ Hid (foldR e (l.take k) = (o, p)) ∧ Hid (o.length ≤ k + 1) ∧ Hid (W.ownsRow (N + 1) 32 34 v9 o.length (ents o)) ∧ Hid (RowV W N 32 e.cs) ∧ Hid (Below N w W) ∧ Hid (N + 1 ≤ W.heap.size)) (fun _ _ v _ => n - (intOf v).toNat)
        case atStart => exact ⟨0, [], false, Nat.zero_le _, rfl, rfl, rfl, by show _ ≤ _; simp, HO0, HR3, HB3, hs3⟩
        case round =>
          obtain ⟨k, o, p, hk, rfl, rfl, HF, HLn, HO, HR, HB, HZ⟩ := hrel
          clear HO0 HR3 HB3 hs3
          have hlo0 : o.length ≤ k + 1 := HLn.out
          by_cases hlt : k < n
          · have hlt' : (k : Int) < (n : Int) := by omega
            have hk0 : (0 : Int) ≤ (k : Int) := by omega
            obtain ⟨x, hx⟩ : ∃ x, l[k]? = some x := ⟨_, List.getElem?_eq_getElem (by rw [Hn.out]; exact hlt)⟩
            obtain ⟨b1, o1, hA1, hb1, hr1⟩ := lies_ent (HL0.out.below HB.out) hx
            subst hA1
            have Hx := Lib.hid hx
            have Rf := Lib.hid hr1
            have Rx := Lib.hid (adr_of hr1)
            have Hsx := Lib.hid (ent_size x)
            have HszX := Lib.hid (adr_size x.adr)
            have hz := HZ.out
            clear hx hr1
            cases p
            · go_wp2_with fail
              obtain ⟨wd, hwd⟩ : ∃ wd, wr.drew = wd := ⟨_, rfl⟩
              have hSc : Below wd.heap.size wd wr.drew := by rw [hwd]; exact Below.refl _ _
              refine wp_region_held_drew (S := fun W => Below wd.heap.size wd W) (by kernel_rfl) hSc (fun hHeld => ?_)
              have HOd : Hid (wr.drew.ownsRow (N + 1) 32 34 u9 o.length (ents o)) := HO.out.drew
              have HRd : Hid (RowV wr.drew N 32 e.cs) := HR.out.drew
              have HBd : Hid (Below N w wr.drew) := HB.out.drew
              have r1 : Hid (wr.drew.rangeAt b1 (o1 + k * 34) (cells x.adr.1)) := Rx.out
              have r2 : Hid (wr.drew.rangeAt b1 (o1 + k * 34) x.cs) := Rf.out
              have hzd : N + 1 ≤ wr.drew.heap.size := hz
              rw [hwd] at hSc hHeld HOd HRd HBd r1 r2 hzd ⊢
              clear hwd HO HR HB Rx Rf hz
              have hb1d : b1 < wd.heap.size := by omega
              have hNd : N < wd.heap.size := by omega
              have q5 : Hid (wd.rangeAt N 0 (cells e.adr.1)) := adr_of (row_range HRd.out)
              refine wpAnyH_take (i := 0) (oi := ⟨_, _, _, _, _, _⟩) (v := ?_) rfl (by kernel_rfl) (by kernel_rfl) (by kernel_rfl) (fun _ _ _ h => h) (Or.inl ⟨by rfl, ?_⟩) (by assumption) ?_
              rotate_left
              · intro W hSW; go_simp; try with_reducible rfl
              try simp only [Act.put, List.setIfInBounds_toArray, List.set_cons_zero, List.set_cons_succ]
              refine wpAnyH_take (i := 1) (oi := ⟨_, _, _, _, _, _⟩) (v := ?_) rfl (by kernel_rfl) (by kernel_rfl) (by kernel_rfl) (fun _ _ _ h => h) (Or.inl ⟨by rfl, ?_⟩) (by assumption) ?_
              rotate_left
              · intro W hSW; go_simp; try with_reducible rfl
              try simp only [Act.put, List.setIfInBounds_toArray, List.set_cons_zero, List.set_cons_succ]
              refine wpAnyH_take (i := 2) (oi := ⟨_, _, _, _, _, _⟩) (v := ?_) rfl (by kernel_rfl) (by kernel_rfl) (by kernel_rfl) (fun _ _ _ h => h) (Or.inl ⟨by rfl, ?_⟩) (by assumption) ?_
              rotate_left
              · intro W hSW; go_simp; try with_reducible rfl
              try simp only [Act.put, List.setIfInBounds_toArray, List.set_cons_zero, List.set_cons_succ]
              refine wpAnyH_take (i := 3) (oi := ⟨_, _, _, _, _, _⟩) (v := ?_) rfl (by kernel_rfl) (by kernel_rfl) (by kernel_rfl) (fun _ _ _ h => h) (Or.inl ⟨by rfl, ?_⟩) (by assumption) ?_
              rotate_left
              · intro W hSW; go_simp; try with_reducible rfl
              try simp only [Act.put, List.setIfInBounds_toArray, List.set_cons_zero, List.set_cons_succ]
              refine wpAnyH_take (i := 4) (oi := ⟨_, _, _, _, _, _⟩) (v := ?_) rfl (by kernel_rfl) (by kernel_rfl) (by kernel_rfl) (fun _ _ _ h => h) (Or.inl ⟨by rfl, ?_⟩) (by assumption) ?_
              rotate_left
              · intro W hSW; go_simp; try with_reducible rfl
              try simp only [Act.put, List.setIfInBounds_toArray, List.set_cons_zero, List.set_cons_succ]
              refine wpAnyH_take (i := 5) (oi := ⟨_, _, _, _, _, _⟩) (v := ?_) rfl (by kernel_rfl) (by kernel_rfl) (by kernel_rfl) (fun _ _ _ h => h) (Or.inl ⟨by rfl, ?_⟩) (by assumption) ?_
              rotate_left
              · intro W hSW; go_simp; try with_reducible rfl
              try simp only [Act.put, List.setIfInBounds_toArray, List.set_cons_zero, List.set_cons_succ]
              refine wpAnyH_take (i := 6) (oi := ⟨_, _, _, _, _, _⟩) (v := ?_) rfl (by kernel_rfl) (by kernel_rfl) (by kernel_rfl) (fun _ _ _ h => h) (Or.inl ⟨by rfl, ?_⟩) (by assumption) ?_
              rotate_left
              · intro W hSW; go_simp; try with_reducible rfl
              try simp only [Act.put, List.setIfInBounds_toArray, List.set_cons_zero, List.set_cons_succ]
              refine wpAnyH_take (i := 7) (oi := ⟨_, _, _, _, _, _⟩) (v := ?_) rfl (by kernel_rfl) (by kernel_rfl) (by kernel_rfl) (fun _ _ _ h => h) (Or.inl ⟨by rfl, ?_⟩) (by assumption) ?_
              rotate_left
              · intro W hSW; refine exec_load_mid 23 (.tmp 42) ?_ b1 (o1 + k * 34) ?_ (cells x.adr.1) _ (range_below r1.out hSW hb1d) Try.underlying23 rfl HszX.out <;> rfl
              try simp only [Act.put, List.setIfInBounds_toArray, List.set_cons_zero, List.set_cons_succ]
              refine wpAnyH_take (i := 8) (oi := ⟨_, _, _, _, _, _⟩) (v := ?_) rfl (by kernel_rfl) (by kernel_rfl) (by kernel_rfl) (fun _ _ _ h => h) (Or.inl ⟨by rfl, ?_⟩) (by assumption) ?_
              rotate_left
              · intro W hSW; go_simp; try with_reducible rfl
              try simp only [Act.put, List.setIfInBounds_toArray, List.set_cons_zero, List.set_cons_succ]
              refine wpAnyH_take (i := 9) (oi := ⟨_, _, _, _, _, _⟩) (v := ?_) rfl (by kernel_rfl) (by kernel_rfl) (by kernel_rfl) (fun _ _ _ h => h) (Or.inl ⟨by rfl, ?_⟩) (by assumption) ?_
              rotate_left
              · intro W hSW; refine exec_load_mid 23 (.tmp 44) ?_ N 0 ?_ (cells e.adr.1) _ (range_below q5.out hSW hNd) Try.underlying23 rfl HszE.out <;> rfl
              try simp only [Act.put, List.setIfInBounds_toArray, List.set_cons_zero, List.set_cons_succ]
              refine wpAnyH_ready (rs := [10]) (by kernel_rfl) (by simp) ?_
              refine AllReadyH.cons (o := ⟨_, _, _, _, _, _⟩) rfl (fun K hK => ?_) AllReadyH.nil
              go_simp
              refine (rless_any x.adr.1 e.adr.1 x.adr.2 e.adr.2 _).mono ?_
              rintro e wx ⟨rfl, hb⟩
              try simp only []
              have hSwx := hSc.trans (hb.mono hSc.size)
              refine hK.out _ _ hSwx (fun hHeld => ?_)
              clear hK K hb hSc
              have hSc := hSwx
              clear hSwx
              try simp only [Act.put, List.setIfInBounds_toArray, List.set_cons_zero, List.set_cons_succ]
              refine wpAnyH_take (i := 11) (oi := ⟨_, _, _, _, _, _⟩) (v := ?_) rfl (by kernel_rfl) (by kernel_rfl) (by kernel_rfl) (fun _ _ _ h => h) (Or.inl ⟨by rfl, ?_⟩) (by assumption) ?_
              rotate_left
              · intro W hSW; go_simp; try with_reducible rfl
              try simp only [Act.put, List.setIfInBounds_toArray, List.set_cons_zero, List.set_cons_succ]
              refine wpAnyH_take (i := 12) (oi := ⟨_, _, _, _, _, _⟩) (v := ?_) rfl (by kernel_rfl) (by kernel_rfl) (by kernel_rfl) (fun _ _ _ h => h) (Or.inl ⟨by rfl, ?_⟩) (by assumption) ?_
              rotate_left
              · intro W hSW; go_simp; try with_reducible rfl
              try simp only [Act.put, List.setIfInBounds_toArray, List.set_cons_zero, List.set_cons_succ]
              refine wpAnyH_done (by kernel_rfl) ?_ _
              have HO2 : Hid (wx.ownsRow (N + 1) 32 34 u9 o.length (ents o)) := own_below HOd.out hSc
              have HR2 : Hid (RowV wx N 32 e.cs) := HRd.out.below hNd hSc
              have HB2 : Hid (Below N w wx) := HBd.out.trans (hSc.mono (by omega))
              have R2 := Lib.hid (range_below r2.out hSc hb1d)
              have hz2 : N + 1 ≤ wx.heap.size := by have := hSc.size; omega
              have QE := Lib.hid (row_range HR2.out)
              clear HOd HRd HBd r1 r2 q5 hSc hb1d hNd hzd hHeld
              cases hless : Op.bytesLess x.adr.1 e.adr.1
              · have hlo : o.length + 1 ≤ k + 2 := by omega
                by_cases ha : x.adr = e.adr
                · have hkk : kk = (k : Int) := by have := H3.out k x Hx.out; rw [decide_eq_true ha, beq_iff_eq] at this; exact this.symm
                  have HF1 : Hid (foldR e (l.take (k + 1)) = (o ++ [e], true)) := by
                    show _ = _
                    rw [take_snoc Hx.out, foldR_snoc, HF.out]
                    rw [stepR_put ⟨rfl, hless⟩, if_pos ha]
                  have HLn1 : Hid ((o ++ [e]).length ≤ k + 1 + 1) := lenF HF1.out
                  subst hkk
                  go_wp2_with (first
                    | ((with_reducible refine at_load 32 ?_); refine wpList_load_mid rfl 32 _ rfl N 0 rfl e.cs _ QE.out Try.underlying32 rfl Hse.out ?_)
                    | ((with_reducible refine at_buildSlice 26 ?_); refine wpList_buildSlice_oneV rfl 26 32 _ rfl e.cs rfl Try.underlying26 Try.infoE (Ent.cs_length _) (by decide) (by decide) ?_; intro waA hraA hbaA hsaA; have HOaA := Lib.hid (own_below HO2.out hbaA))
                    | (at_builtin; refine wpList_append_one rfl _ _ 26 rfl (N + 1) 32 Try.underlying26 Try.infoE rfl (by decide) _ _ _ rfl HOaA.out _ e.cs rfl hraA (Ent.cs_length _) (Ent.one _) (by unfold maxLen; omega) (by omega) (by omega) ?_; intro vA wbA hownbA hgbA hwhbA; have HOA : Hid (wbA.ownsRow (N + 1) 32 34 vA (o ++ [e]).length (ents (o ++ [e]))) := (by rw [List.length_append, ents_snoc]; exact hownbA); have HB0A : Hid (Below N wx wbA) := (hbaA.mono (by omega)).grown hgbA (by omega) (fun g e => by have := own_ge HOaA.out g e; omega); have HRA : Hid (RowV wbA N 32 e.cs) := (HR2.out.below (by omega) hbaA).keep hgbA (fun e => by have := own_ge HOaA.out _ e; omega); have HBA : Hid (Below N w wbA) := HB2.out.trans HB0A.out; have HZA : N + 1 ≤ wbA.heap.size := (by have := hgbA.size; omega); have RA := Lib.hid (range_below R2.out HB0A.out hb1); clear hownbA hgbA hwhbA))
                  go_roundw
                  case rel => exact ⟨k + 1, o ++ [e], true, by omega, by go_num, rfl, HF1, HLn1, HOA, HRA, HBA, HZA⟩
                  case measure => simp [intOf]; omega
                · skip
                  have hkk : ((k : Int) == kk) = false := by rw [H3.out k x Hx.out]; exact decide_eq_false ha
                  have hkk2 : ¬ ((k : Int) = kk) := by rw [beq_eq_false_iff_ne] at hkk; exact hkk
                  have HF1 : Hid (foldR e (l.take (k + 1)) = (o ++ [e] ++ [x], true)) := by
                    show _ = _
                    rw [take_snoc Hx.out, foldR_snoc, HF.out]
                    rw [stepR_put ⟨rfl, hless⟩, if_neg ha]
                  have HLn1 : Hid ((o ++ [e] ++ [x]).length ≤ k + 1 + 1) := lenF HF1.out
                  have hlo : (o ++ [e]).length ≤ k + 2 := by (simp only [List.length_append, List.length_singleton]; omega)
                  go_wp2_with (first
                    | ((with_reducible refine at_load 32 ?_); refine wpList_load_mid rfl 32 _ rfl N 0 rfl e.cs _ QE.out Try.underlying32 rfl Hse.out ?_)
                    | ((with_reducible refine at_buildSlice 26 ?_); refine wpList_buildSlice_oneV rfl 26 32 _ rfl e.cs rfl Try.underlying26 Try.infoE (Ent.cs_length _) (by decide) (by decide) ?_; intro waA hraA hbaA hsaA; have HOaA := Lib.hid (own_below HO2.out hbaA))
                    | (at_builtin; refine wpList_append_one rfl _ _ 26 rfl (N + 1) 32 Try.underlying26 Try.infoE rfl (by decide) _ _ _ rfl HOaA.out _ e.cs rfl hraA (Ent.cs_length _) (Ent.one _) (by unfold maxLen; omega) (by omega) (by omega) ?_; intro vA wbA hownbA hgbA hwhbA; have HOA : Hid (wbA.ownsRow (N + 1) 32 34 vA (o ++ [e]).length (ents (o ++ [e]))) := (by rw [List.length_append, ents_snoc]; exact hownbA); have HB0A : Hid (Below N wx wbA) := (hbaA.mono (by omega)).grown hgbA (by omega) (fun g e => by have := own_ge HOaA.out g e; omega); have HRA : Hid (RowV wbA N 32 e.cs) := (HR2.out.below (by omega) hbaA).keep hgbA (fun e => by have := own_ge HOaA.out _ e; omega); have HBA : Hid (Below N w wbA) := HB2.out.trans HB0A.out; have HZA : N + 1 ≤ wbA.heap.size := (by have := hgbA.size; omega); have RA := Lib.hid (range_below R2.out HB0A.out hb1); clear hownbA hgbA hwhbA)
                    | ((with_reducible refine at_load 32 ?_); refine wpList_load_mid rfl 32 _ rfl b1 (o1 + k * 34) rfl x.cs _ RA.out Try.underlying32 rfl Hsx.out ?_)
                    | ((with_reducible refine at_buildSlice 26 ?_); refine wpList_buildSlice_oneV rfl 26 32 _ rfl x.cs rfl Try.underlying26 Try.infoE (Ent.cs_length _) (by decide) (by decide) ?_; intro waB hraB hbaB hsaB; have HOaB := Lib.hid (own_below HOA.out hbaB))
                    | (at_builtin; refine wpList_append_one rfl _ _ 26 rfl (N + 1) 32 Try.underlying26 Try.infoE rfl (by decide) _ _ _ rfl HOaB.out _ x.cs rfl hraB (Ent.cs_length _) (Ent.one _) (by unfold maxLen; omega) (by omega) (by omega) ?_; intro vB wbB hownbB hgbB hwhbB; have HOB : Hid (wbB.ownsRow (N + 1) 32 34 vB (o ++ [e] ++ [x]).length (ents (o ++ [e] ++ [x]))) := (by rw [List.length_append, ents_snoc]; exact hownbB); have HB0B : Hid (Below N wbA wbB) := (hbaB.mono (by omega)).grown hgbB (by omega) (fun g e => by have := own_ge HOaB.out g e; omega); have HRB : Hid (RowV wbB N 32 e.cs) := (HRA.out.below (by omega) hbaB).keep hgbB (fun e => by have := own_ge HOaB.out _ e; omega); have HBB : Hid (Below N w wbB) := HBA.out.trans HB0B.out; have HZB : N + 1 ≤ wbB.heap.size := (by have := hgbB.size; omega); clear hownbB hgbB hwhbB))
                  go_roundw
                  case rel => exact ⟨k + 1, o ++ [e] ++ [x], true, by omega, by go_num, rfl, HF1, HLn1, HOB, HRB, HBB, HZB⟩
                  case measure => simp [intOf]; omega
              · skip
                by_cases ha : x.adr = e.adr
                · have hkk : kk = (k : Int) := by have := H3.out k x Hx.out; rw [decide_eq_true ha, beq_iff_eq] at this; exact this.symm
                  have HF1 : Hid (foldR e (l.take (k + 1)) = (o, false)) := by
                    show _ = _
                    rw [take_snoc Hx.out, foldR_snoc, HF.out]
                    rw [stepR_keep (by rw [hless]; simp), if_pos ha]
                  have HLn1 : Hid ((o).length ≤ k + 1 + 1) := lenF HF1.out
                  subst hkk
                  go_wp2_with fail
                  go_roundw
                  case rel => exact ⟨k + 1, o, false, by omega, by go_num, rfl, HF1, HLn1, HO2, HR2, HB2, hz2⟩
                  case measure => simp [intOf]; omega
                · skip
                  have hkk : ((k : Int) == kk) = false := by rw [H3.out k x Hx.out]; exact decide_eq_false ha
                  have hkk2 : ¬ ((k : Int) = kk) := by rw [beq_eq_false_iff_ne] at hkk; exact hkk
                  have HF1 : Hid (foldR e (l.take (k + 1)) = (o ++ [x], false)) := by
                    show _ = _
                    rw [take_snoc Hx.out, foldR_snoc, HF.out]
                    rw [stepR_keep (by rw [hless]; simp), if_neg ha]
                  have HLn1 : Hid ((o ++ [x]).length ≤ k + 1 + 1) := lenF HF1.out
                  have hlo : (o).length ≤ k + 2 := by omega
                  go_wp2_with (first
                    | ((with_reducible refine at_load 32 ?_); refine wpList_load_mid rfl 32 _ rfl b1 (o1 + k * 34) rfl x.cs _ R2.out Try.underlying32 rfl Hsx.out ?_)
                    | ((with_reducible refine at_buildSlice 26 ?_); refine wpList_buildSlice_oneV rfl 26 32 _ rfl x.cs rfl Try.underlying26 Try.infoE (Ent.cs_length _) (by decide) (by decide) ?_; intro waB hraB hbaB hsaB; have HOaB := Lib.hid (own_below HO2.out hbaB))
                    | (at_builtin; refine wpList_append_one rfl _ _ 26 rfl (N + 1) 32 Try.underlying26 Try.infoE rfl (by decide) _ _ _ rfl HOaB.out _ x.cs rfl hraB (Ent.cs_length _) (Ent.one _) (by unfold maxLen; omega) (by omega) (by omega) ?_; intro vB wbB hownbB hgbB hwhbB; have HOB : Hid (wbB.ownsRow (N + 1) 32 34 vB (o ++ [x]).length (ents (o ++ [x]))) := (by rw [List.length_append, ents_snoc]; exact hownbB); have HB0B : Hid (Below N wx wbB) := (hbaB.mono (by omega)).grown hgbB (by omega) (fun g e => by have := own_ge HOaB.out g e; omega); have HRB : Hid (RowV wbB N 32 e.cs) := (HR2.out.below (by omega) hbaB).keep hgbB (fun e => by have := own_ge HOaB.out _ e; omega); have HBB : Hid (Below N w wbB) := HB2.out.trans HB0B.out; have HZB : N + 1 ≤ wbB.heap.size := (by have := hgbB.size; omega); clear hownbB hgbB hwhbB))
                  go_roundw
                  case rel => exact ⟨k + 1, o ++ [x], false, by omega, by go_num, rfl, HF1, HLn1, HOB, HRB, HBB, HZB⟩
                  case measure => simp [intOf]; omega
            · go_wp2_with fail
              obtain ⟨wd, hwd⟩ : ∃ wd, wr.drew = wd := ⟨_, rfl⟩
              have hSc : Below wd.heap.size wd wr.drew := by rw [hwd]; exact Below.refl _ _
              refine wp_region_held_drew (S := fun W => Below wd.heap.size wd W) (by kernel_rfl) hSc (fun hHeld => ?_)
              have HOd : Hid (wr.drew.ownsRow (N + 1) 32 34 u9 o.length (ents o)) := HO.out.drew
              have HRd : Hid (RowV wr.drew N 32 e.cs) := HR.out.drew
              have HBd : Hid (Below N w wr.drew) := HB.out.drew
              have r1 : Hid (wr.drew.rangeAt b1 (o1 + k * 34) (cells x.adr.1)) := Rx.out
              have r2 : Hid (wr.drew.rangeAt b1 (o1 + k * 34) x.cs) := Rf.out
              have hzd : N + 1 ≤ wr.drew.heap.size := hz
              rw [hwd] at hSc hHeld HOd HRd HBd r1 r2 hzd ⊢
              clear hwd HO HR HB Rx Rf hz
              have hb1d : b1 < wd.heap.size := by omega
              have hNd : N < wd.heap.size := by omega
              have q5 : Hid (wd.rangeAt N 0 (cells e.adr.1)) := adr_of (row_range HRd.out)
              refine wpAnyH_take (i := 0) (oi := ⟨_, _, _, _, _, _⟩) (v := ?_) rfl (by kernel_rfl) (by kernel_rfl) (by kernel_rfl) (fun _ _ _ h => h) (Or.inl ⟨by rfl, ?_⟩) (by assumption) ?_
              rotate_left
              · intro W hSW; go_simp; try with_reducible rfl
              try simp only [Act.put, List.setIfInBounds_toArray, List.set_cons_zero, List.set_cons_succ]
              refine wpAnyH_take (i := 1) (oi := ⟨_, _, _, _, _, _⟩) (v := ?_) rfl (by kernel_rfl) (by kernel_rfl) (by kernel_rfl) (fun _ _ _ h => h) (Or.inl ⟨by rfl, ?_⟩) (by assumption) ?_
              rotate_left
              · intro W hSW; go_simp; try with_reducible rfl
              try simp only [Act.put, List.setIfInBounds_toArray, List.set_cons_zero, List.set_cons_succ]
              refine wpAnyH_take (i := 2) (oi := ⟨_, _, _, _, _, _⟩) (v := ?_) rfl (by kernel_rfl) (by kernel_rfl) (by kernel_rfl) (fun _ _ _ h => h) (Or.inl ⟨by rfl, ?_⟩) (by assumption) ?_
              rotate_left
              · intro W hSW; go_simp; try with_reducible rfl
              try simp only [Act.put, List.setIfInBounds_toArray, List.set_cons_zero, List.set_cons_succ]
              refine wpAnyH_take (i := 3) (oi := ⟨_, _, _, _, _, _⟩) (v := undef) rfl (by kernel_rfl) (by kernel_rfl) (by kernel_rfl) (fun _ _ _ h => h) (Or.inr ⟨by rfl, rfl⟩) (by assumption) ?_
              try simp only [Act.put, List.setIfInBounds_toArray, List.set_cons_zero, List.set_cons_succ]
              refine wpAnyH_take (i := 4) (oi := ⟨_, _, _, _, _, _⟩) (v := undef) rfl (by kernel_rfl) (by kernel_rfl) (by kernel_rfl) (fun _ _ _ h => h) (Or.inr ⟨by rfl, rfl⟩) (by assumption) ?_
              try simp only [Act.put, List.setIfInBounds_toArray, List.set_cons_zero, List.set_cons_succ]
              refine wpAnyH_take (i := 5) (oi := ⟨_, _, _, _, _, _⟩) (v := undef) rfl (by kernel_rfl) (by kernel_rfl) (by kernel_rfl) (fun _ _ _ h => h) (Or.inr ⟨by rfl, rfl⟩) (by assumption) ?_
              try simp only [Act.put, List.setIfInBounds_toArray, List.set_cons_zero, List.set_cons_succ]
              refine wpAnyH_take (i := 6) (oi := ⟨_, _, _, _, _, _⟩) (v := undef) rfl (by kernel_rfl) (by kernel_rfl) (by kernel_rfl) (fun _ _ _ h => h) (Or.inr ⟨by rfl, rfl⟩) (by assumption) ?_
              try simp only [Act.put, List.setIfInBounds_toArray, List.set_cons_zero, List.set_cons_succ]
              refine wpAnyH_take (i := 7) (oi := ⟨_, _, _, _, _, _⟩) (v := undef) rfl (by kernel_rfl) (by kernel_rfl) (by kernel_rfl) (fun _ _ _ h => h) (Or.inr ⟨by rfl, rfl⟩) (by assumption) ?_
              try simp only [Act.put, List.setIfInBounds_toArray, List.set_cons_zero, List.set_cons_succ]
              refine wpAnyH_take (i := 8) (oi := ⟨_, _, _, _, _, _⟩) (v := undef) rfl (by kernel_rfl) (by kernel_rfl) (by kernel_rfl) (fun _ _ _ h => h) (Or.inr ⟨by rfl, rfl⟩) (by assumption) ?_
              try simp only [Act.put, List.setIfInBounds_toArray, List.set_cons_zero, List.set_cons_succ]
              refine wpAnyH_take (i := 9) (oi := ⟨_, _, _, _, _, _⟩) (v := undef) rfl (by kernel_rfl) (by kernel_rfl) (by kernel_rfl) (fun _ _ _ h => h) (Or.inr ⟨by rfl, rfl⟩) (by assumption) ?_
              try simp only [Act.put, List.setIfInBounds_toArray, List.set_cons_zero, List.set_cons_succ]
              refine wpAnyH_take (i := 10) (oi := ⟨_, _, _, _, _, _⟩) (v := undef) rfl (by kernel_rfl) (by kernel_rfl) (by kernel_rfl) (fun _ _ _ h => h) (Or.inr ⟨by rfl, rfl⟩) (by assumption) ?_
              try simp only [Act.put, List.setIfInBounds_toArray, List.set_cons_zero, List.set_cons_succ]
              refine wpAnyH_take (i := 11) (oi := ⟨_, _, _, _, _, _⟩) (v := undef) rfl (by kernel_rfl) (by kernel_rfl) (by kernel_rfl) (fun _ _ _ h => h) (Or.inr ⟨by rfl, rfl⟩) (by assumption) ?_
              try simp only [Act.put, List.setIfInBounds_toArray, List.set_cons_zero, List.set_cons_succ]
              refine wpAnyH_take (i := 12) (oi := ⟨_, _, _, _, _, _⟩) (v := ?_) rfl (by kernel_rfl) (by kernel_rfl) (by kernel_rfl) (fun _ _ _ h => h) (Or.inl ⟨by rfl, ?_⟩) (by assumption) ?_
              rotate_left
              · intro W hSW; go_simp; try with_reducible rfl
              try simp only [Act.put, List.setIfInBounds_toArray, List.set_cons_zero, List.set_cons_succ]
              refine wpAnyH_done (by kernel_rfl) ?_ _
              obtain ⟨wx, hwx⟩ : ∃ wx, wd = wx := ⟨_, rfl⟩
              have hSx : Below wd.heap.size wd wd := Below.refl _ _
              clear r1 q5 hSc hSx hwx hHeld
              have hz2 : N + 1 ≤ wd.heap.size := hzd
              by_cases ha : x.adr = e.adr
              · have hkk : kk = (k : Int) := by have := H3.out k x Hx.out; rw [decide_eq_true ha, beq_iff_eq] at this; exact this.symm
                have HF1 : Hid (foldR e (l.take (k + 1)) = (o, true)) := by
                  show _ = _
                  rw [take_snoc Hx.out, foldR_snoc, HF.out]
                  rw [stepR_keep (by simp), if_pos ha]
                have HLn1 : Hid ((o).length ≤ k + 1 + 1) := lenF HF1.out
                subst hkk
                go_wp2_with fail
                go_roundw
                case rel => exact ⟨k + 1, o, true, by omega, by go_num, rfl, HF1, HLn1, HOd, HRd, HBd, hz2⟩
                case measure => simp [intOf]; omega
              · skip
                have hkk : ((k : Int) == kk) = false := by rw [H3.out k x Hx.out]; exact decide_eq_false ha
                have hkk2 : ¬ ((k : Int) = kk) := by rw [beq_eq_false_iff_ne] at hkk; exact hkk
                have HF1 : Hid (foldR e (l.take (k + 1)) = (o ++ [x], true)) := by
                  show _ = _
                  rw [take_snoc Hx.out, foldR_snoc, HF.out]
                  rw [stepR_keep (by simp), if_neg ha]
                have HLn1 : Hid ((o ++ [x]).length ≤ k + 1 + 1) := lenF HF1.out
                have hlo : (o).length ≤ k + 2 := by omega
                go_wp2_with (first
                  | ((with_reducible refine at_load 32 ?_); refine wpList_load_mid rfl 32 _ rfl b1 (o1 + k * 34) rfl x.cs _ r2.out Try.underlying32 rfl Hsx.out ?_)
                  | ((with_reducible refine at_buildSlice 26 ?_); refine wpList_buildSlice_oneV rfl 26 32 _ rfl x.cs rfl Try.underlying26 Try.infoE (Ent.cs_length _) (by decide) (by decide) ?_; intro waB hraB hbaB hsaB; have HOaB := Lib.hid (own_below HOd.out hbaB))
                  | (at_builtin; refine wpList_append_one rfl _ _ 26 rfl (N + 1) 32 Try.underlying26 Try.infoE rfl (by decide) _ _ _ rfl HOaB.out _ x.cs rfl hraB (Ent.cs_length _) (Ent.one _) (by unfold maxLen; omega) (by omega) (by omega) ?_; intro vB wbB hownbB hgbB hwhbB; have HOB : Hid (wbB.ownsRow (N + 1) 32 34 vB (o ++ [x]).length (ents (o ++ [x]))) := (by rw [List.length_append, ents_snoc]; exact hownbB); have HB0B : Hid (Below N wd wbB) := (hbaB.mono (by omega)).grown hgbB (by omega) (fun g e => by have := own_ge HOaB.out g e; omega); have HRB : Hid (RowV wbB N 32 e.cs) := (HRd.out.below (by omega) hbaB).keep hgbB (fun e => by have := own_ge HOaB.out _ e; omega); have HBB : Hid (Below N w wbB) := HBd.out.trans HB0B.out; have HZB : N + 1 ≤ wbB.heap.size := (by have := hgbB.size; omega); clear hownbB hgbB hwhbB))
                go_roundw
                case rel => exact ⟨k + 1, o ++ [x], true, by omega, by go_num, rfl, HF1, HLn1, HOB, HRB, HBB, HZB⟩
                case measure => simp [intOf]; omega
          · obtain rfl : k = n := by omega
            have hfin : foldR e l = (o, p) := by have := HF.out; rw [List.take_of_length_le (by rw [Hn.out]; exact Nat.le_refl _)] at this; exact this
            have QE := Lib.hid (row_range HR.out)
            have hz2 := HZ.out
            cases p
            · have Hp : Hid (RPutP l tn e 0 (o ++ [e])) := H2.out _ (by unfold putR endR; rw [hfin]; rfl)
              clear hfin
              go_wp2_with (first
                | ((with_reducible refine at_load 32 ?_); refine wpList_load_mid rfl 32 _ rfl N 0 rfl e.cs _ QE.out Try.underlying32 rfl Hse.out ?_)
                | ((with_reducible refine at_buildSlice 26 ?_); refine wpList_buildSlice_oneV rfl 26 32 _ rfl e.cs rfl Try.underlying26 Try.infoE (Ent.cs_length _) (by decide) (by decide) ?_; intro waA hraA hbaA hsaA; have HOaA := Lib.hid (own_below HO.out hbaA))
                | (at_builtin; refine wpList_append_one rfl _ _ 26 rfl (N + 1) 32 Try.underlying26 Try.infoE rfl (by decide) _ _ _ rfl HOaA.out _ e.cs rfl hraA (Ent.cs_length _) (Ent.one _) (by unfold maxLen; omega) (by omega) (by omega) ?_; intro vA wbA hownbA hgbA hwhbA; have HOA : Hid (wbA.ownsRow (N + 1) 32 34 vA (o ++ [e]).length (ents (o ++ [e]))) := (by rw [List.length_append, ents_snoc]; exact hownbA); have HB0A : Hid (Below N wr wbA) := (hbaA.mono (by omega)).grown hgbA (by omega) (fun g e => by have := own_ge HOaA.out g e; omega); have HRA : Hid (RowV wbA N 32 e.cs) := (HR.out.below (by omega) hbaA).keep hgbA (fun e => by have := own_ge HOaA.out _ e; omega); have HBA : Hid (Below N w wbA) := HB.out.trans HB0A.out; have HZA : N + 1 ≤ wbA.heap.size := (by have := hgbA.size; omega); clear hownbA hgbA hwhbA))
              go_ret2
              exact ⟨0, o ++ [e], _, rfl, RowE.own HOA.out, .inr (fun g e => by have : N + 1 ≤ g := own_ge HOA.out g e; omega), Hp.out, by rw [hN]; exact HBA.out⟩
            · have Hp : Hid (RPutP l tn e 0 o) := H2.out _ (by unfold putR endR; rw [hfin]; rfl)
              clear hfin
              go_wp2_with fail
              go_ret2
              exact ⟨0, o, _, rfl, RowE.own HO.out, .inr (fun g e => by have : N + 1 ≤ g := own_ge HO.out g e; omega), Hp.out, by rw [hN]; exact HB.out⟩
  · rw [decide_eq_false hok]
    have Hp : Hid (RPutP l tn e 2 l) := .inl ⟨hok, rfl, rfl⟩
    go_wp2_with fail
    go_ret2
    exact ⟨2, l, _, rfl, HRow.out _ HB2.out, .inl rfl, Hp.out, HB2.out⟩
end Go.Proofs.Ytkkllmjomdbndaa
