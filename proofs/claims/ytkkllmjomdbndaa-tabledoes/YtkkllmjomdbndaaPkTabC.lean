/-
  Layer 11: the contracts of distance, displaced, yields, valid.
  Layer 11: the contract of yields.
-/
import Derived.Test.YtkkllmjomdbndaaPkTabA
import Derived.Test.YtkkllmjomdbndaaPkExecRow
import Derived.Deep.RegionHeld3
namespace Go.Proofs.Ytkkllmjomdbndaa
open Go.RowKit
set_option linter.unusedVariables false
set_option linter.unusedSimpArgs false

theorem far_mod {n h p : Nat} (hh : h < n) (hp : p < n) : ((p : Int) - (h : Int) + (n : Int)) % (n : Int) = ((farF n h p : Nat) : Int) := by
  unfold farF
  split
  · rw [show (p : Int) - h + n = ((p - h : Nat) : Int) + n by omega, Int.add_emod_right, Int.emod_eq_of_lt (by omega) (by omega)]
  · rw [Int.emod_eq_of_lt (by omega) (by omega)]; omega
/-- Of two that want a place. -/
def goesB (n : Nat) (hn : 0 < n) (a b : Adr) (p : Nat) : Bool := decide ((ruleT n hn).far b p < (ruleT n hn).far a p) || (decide ((ruleT n hn).far b p = (ruleT n hn).far a p) && Op.bytesLess a.1 b.1)
theorem goesB_iff {n : Nat} {hn : 0 < n} {a b : Adr} {p : Nat} : goesB n hn a b p = true ↔ (ruleT n hn).goes a b p := by
  unfold goesB Rule.goes
  simp only [Bool.or_eq_true, Bool.and_eq_true, decide_eq_true_eq]
  constructor
  · rintro (h | ⟨h, k⟩)
    · exact .inl h
    · exact .inr ⟨h.symm, k⟩
  · rintro (h | ⟨h, k⟩)
    · exact .inl h
    · exact .inr ⟨h.symm, k⟩
theorem goesB_no {n : Nat} {hn : 0 < n} {a b : Adr} {p : Nat} : goesB n hn a b p = false ↔ ¬ (ruleT n hn).goes a b p := by rw [← goesB_iff]; simp

set_option maxRecDepth 100000 in
set_option maxHeartbeats 1000000 in
theorem tdist_any (w : World) (b g c n : Nat) (hn : 0 < n) (l : List Ent) (h : TabAt w b g c n l) (a : Adr) (p : Nat) (hp : p < n) :
    Calls Try.prog 37 #[.pointer (some ⟨b, 0, none⟩), a.val, .int .i64 (p : Int)] w fun r w' => r = .returned (.int .i64 (((ruleT n hn).far a p : Nat) : Int)) ∧ Below w.heap.size w w' := by
  have hle := h.le
  have Hh := Lib.hid h
  have Hsz := Lib.hid (adr_size a)
  clear h
  go_enter Try.func37, Try.ntmps37
  go_wp2_with (with_reducible refine at_box 23 ?_; refine wpList_box_rowV rfl 23 _ rfl (cells a.1) rfl ?_)
  intro w1 hr1 hb1 hs1
  have hT1 := Hh.out.later hb1
  have c0 := hT1.ptr.cell
  have Hr := Lib.hid (row_range hr1)
  go_wp2_with ((with_reducible refine at_load 23 ?_); refine wpList_load_mid rfl 23 _ rfl w.heap.size 0 rfl (cells a.1) _ Hr.out Try.underlying23 rfl Hsz.out ?_)
  refine (thome_any w1 b g c n hn l hT1 a).mono ?_
  rintro e w2 ⟨rfl, hb2⟩
  have hh := (ruleT n hn).home_lt a
  have hh' : (ruleT n hn).home a < n := hh
  have hf := far_mod hh' hp
  have hfl : farF n ((ruleT n hn).home a) p < n := farF_lt hh' hp
  have Hf : Hid (farF n ((ruleT n hn).home a) p = (ruleT n hn).far a p) := rfl
  generalize farF n ((ruleT n hn).home a) p = d at *
  generalize (ruleT n hn).home a = q at *
  generalize hdd : (ruleT n hn).far a p = dd at *
  clear hh
  go_wp2_with fail
  go_ret
  exact ⟨by rw [hdd, ← Hf.out, ← hf]; rfl, hb1.trans (hb2.mono (by omega))⟩

set_option maxRecDepth 100000 in
set_option maxHeartbeats 1000000 in
theorem tdisp_any (w : World) (b g c n : Nat) (hn : 0 < n) (l : List Ent) (h : TabAt w b g c n l) (p : Nat) (e : Ent) (he : l[p]? = some e) :
    Calls Try.prog 35 #[.pointer (some ⟨b, 0, none⟩), .int .i64 (p : Int)] w fun r w' => r = .returned (.bool (decide (e.count ≠ 0 ∧ p ≠ (ruleT n hn).home e.adr))) ∧ Below w.heap.size w w' := by
  have hle := h.le
  have hcap := h.cap
  have hp : p < n := by have := (List.getElem?_eq_some_iff.1 he).1; rw [h.len] at this; exact this
  have hp' : (p : Int) < (n : Int) := by omega
  have c0 := h.ptr.cell
  have ra := ent_adr h.row he
  have Hsz := Lib.hid (adr_size e.adr)
  have Hh := Lib.hid h
  have He := Lib.hid he
  clear h he
  by_cases hc : e.count = 0
  · have hd : decide (e.count ≠ 0 ∧ p ≠ (ruleT n hn).home e.adr) = false := by simp [hc]
    rw [hd]
    go_enter Try.func35, Try.ntmps35
    go_wp2_with fail
    refine (tempty_any _ b g c n l Hh.out p e He.out).mono ?_
    rintro r w1 ⟨rfl, rfl⟩
    rw [decide_eq_true hc]
    clear hd
    go_wp2_with fail
    go_ret
    exact ⟨rfl, Below.refl _ _⟩
  · have Hd : Hid (decide (e.count ≠ 0 ∧ p ≠ (ruleT n hn).home e.adr) = decide (0 < (ruleT n hn).far e.adr p)) := by
      show _ = _
      rw [decide_eq_decide]
      have h0 : (ruleT n hn).home e.adr < n := (ruleT n hn).home_lt _
      constructor
      · rintro ⟨_, h2⟩
        refine Nat.pos_of_ne_zero fun h3 => h2 ?_
        exact farF_inj h0 hp h0 (h3.trans (farF_self n _).symm)
      · intro h2
        refine ⟨hc, ?_⟩
        rintro h3
        have h4 : (ruleT n hn).far e.adr p = farF n ((ruleT n hn).home e.adr) p := rfl
        have h5 := farF_self n ((ruleT n hn).home e.adr)
        rw [← h3] at h5
        rw [h4, ← h3] at h2
        omega
    rw [Hd.out]
    go_enter Try.func35, Try.ntmps35
    go_wp2_with fail
    refine (tempty_any _ b g c n l Hh.out p e He.out).mono ?_
    rintro r w1 ⟨rfl, rfl⟩
    rw [decide_eq_false hc]
    go_wp2_with ((with_reducible refine at_loadG 23 ?_); refine wpList_load_midG rfl 23 _ rfl g (p * 34) rfl (cells e.adr.1) _ ra Try.underlying23 rfl Hsz.out ?_)
    refine (tdist_any w1 b g c n hn l Hh.out e.adr p hp).mono ?_
    rintro r w2 ⟨rfl, hb2⟩
    generalize hdd : (ruleT n hn).far e.adr p = d at *
    go_wp2_with fail
    go_ret
    refine ⟨?_, hb2⟩
    rw [hdd]
    have : decide ((d : Int) > 0) = decide (0 < d) := by rw [decide_eq_decide]; omega
    rw [← this]
    rfl

/-- What may stand in a table. -/
def Ent.ok (e : Ent) : Prop := 1 ≤ e.count ∧ e.count ≤ 1099511627776 ∧ 0 ≤ e.slot ∧ e.slot < 200
instance (e : Ent) : Decidable e.ok := by unfold Ent.ok; infer_instance

set_option maxRecDepth 100000 in
set_option maxHeartbeats 1000000 in
theorem tvalid_any (w : World) (e : Ent) : Calls Try.prog 32 #[e.val] w fun r w' => r = .returned (.bool (decide e.ok)) ∧ Below w.heap.size w w' := by
  obtain ⟨a, s, c⟩ := e
  have Hok : ∀ b : Bool, (decide (1 ≤ c) && decide (c ≤ 1099511627776) && decide (0 ≤ s) && decide (s < 200)) = b → decide (Ent.ok ⟨a, s, c⟩) = b := by
    intro b h
    rw [← h, Bool.eq_iff_iff]
    simp only [Bool.and_eq_true, decide_eq_true_eq (p := Ent.ok _), decide_eq_true_eq, and_assoc]
    exact Iff.rfl
  go_enter Try.func32, Try.ntmps32
  go_wp2_with ((with_reducible refine at_box 32 ?_); refine wpList_box_rowV rfl 32 _ rfl (Ent.cs ⟨a, s, c⟩) rfl ?_)
  intro w1 hr1 hb1 hs1
  have c1 := hr1.cell (Ent.get_slot ⟨a, s, c⟩)
  have c2 := hr1.cell (Ent.get_count ⟨a, s, c⟩)
  simp only at c1 c2
  by_cases h1 : 1 ≤ c
  · by_cases h2 : c ≤ 1099511627776
    · by_cases h3 : 0 ≤ s
      · have g1 : decide (1 ≤ c) = true := decide_eq_true h1
        have g2 : decide (c ≤ 1099511627776) = true := decide_eq_true h2
        have g3 : decide (0 ≤ s) = true := decide_eq_true h3
        have Hb := Lib.hid (Hok (decide (s < 200)) (by simp [g1, g2, g3]))
        clear Hok
        go_wp2_with fail
        all_goals
          go_ret
          exact ⟨by rw [Hb.out]; rfl, hb1⟩
      · have g1 : decide (1 ≤ c) = true := decide_eq_true h1
        have g2 : decide (c ≤ 1099511627776) = true := decide_eq_true h2
        have g3 : decide (0 ≤ s) = false := decide_eq_false h3
        have Hb := Lib.hid (Hok false (by simp [g3]))
        clear Hok
        go_wp2_with fail
        all_goals
          go_ret
          exact ⟨by rw [Hb.out]; rfl, hb1⟩
    · have g1 : decide (1 ≤ c) = true := decide_eq_true h1
      have g2 : decide (c ≤ 1099511627776) = false := decide_eq_false h2
      have Hb := Lib.hid (Hok false (by simp [g2]))
      clear Hok
      go_wp2_with fail
      all_goals
        go_ret
        exact ⟨by rw [Hb.out]; rfl, hb1⟩
  · have g1 : decide (1 ≤ c) = false := decide_eq_false h1
    have Hb := Lib.hid (Hok false (by simp [g1]))
    clear Hok
    go_wp2_with fail
    all_goals
      go_ret
      exact ⟨by rw [Hb.out]; rfl, hb1⟩
end Go.Proofs.Ytkkllmjomdbndaa
namespace Go.Proofs.Ytkkllmjomdbndaa
open Go.RowKit
set_option linter.unusedVariables false
set_option linter.unusedSimpArgs false

set_option maxRecDepth 100000 in
set_option maxHeartbeats 4000000 in
theorem tyields_any (w : World) (b g c n : Nat) (hn : 0 < n) (l : List Ent) (h : TabAt w b g c n l) (p : Nat) (f : Ent) (hf : l[p]? = some f) (a : Adr) :
    Calls Try.prog 41 #[.pointer (some ⟨b, 0, none⟩), .int .i64 (p : Int), a.val] w fun r w' => r = .returned (.bool (decide (f.count = 0) || goesB n hn a f.adr p)) ∧ Below w.heap.size w w' := by
  have hle := h.le
  have hcap := h.cap
  have hp : p < n := by have := (List.getElem?_eq_some_iff.1 hf).1; rw [h.len] at this; exact this
  have hp' : (p : Int) < (n : Int) := by omega
  have HszA := Lib.hid (adr_size a)
  have HszO := Lib.hid (adr_size f.adr)
  have Hh := Lib.hid h
  have Hf := Lib.hid hf
  have hbl := h.blt
  have hgl := h.glt
  clear h hf
  go_enter Try.func41, Try.ntmps41
  go_wp2_with ((with_reducible refine at_box 23 ?_); refine wpList_box_rowV rfl 23 _ rfl (cells a.1) rfl ?_)
  intro w1 hr1 hb1 hs1
  have hT1 := Hh.out.later hb1
  have HT1 := Lib.hid hT1
  go_wp2_with fail
  refine (tempty_any w1 b g c n l hT1 p f Hf.out).mono ?_
  rintro r w1' ⟨rfl, hw⟩
  rw [hw]
  clear hw w1'
  by_cases hc : f.count = 0
  · rw [decide_eq_true hc]
    go_wp2_with fail
    go_ret
    exact ⟨by simp [hc], hb1⟩
  · rw [decide_eq_false hc]
    have c0 := hT1.ptr.cell
    have ra := ent_adr hT1.row Hf.out
    clear hT1
    go_wp2_with (first
      | ((with_reducible refine at_load 23 ?_); refine wpList_load_mid rfl 23 _ rfl g (p * 34) rfl (cells f.adr.1) _ ra Try.underlying23 rfl HszO.out ?_)
      | ((with_reducible refine at_alloc 23 ?_); refine wpList_alloc_rowV rfl 23 rfl (cells zeroAdr.1) Try.zeroA32 ?_; intro w2 hr2 hb2 hs2; rw [hs1] at hr2 hb2 ⊢)
      | ((with_reducible refine at_store 23 ?_); refine wpList_store_rowV rfl 23 _ _ rfl (w.heap.size + 1) (cells f.adr.1) rfl rfl 23 (cells zeroAdr.1) hr2 (by rw [List.size_toArray]; exact adr_size _) (by rw [List.size_toArray, List.size_toArray, cells_length, cells_length, f.adr.2, zeroAdr.2]) (all_oneCell_toArray (cells_one _)) ?_; intro w3 hr3 hg3 hs3))
    have hb3 : Below w1.heap.size w1 w3 := by rw [hs1]; exact below_grown hb2 hg3 (Nat.le_refl _) (by have := hb2.size; omega)
    have hz3 : w3.heap.size = w1.heap.size + 1 := by rw [hs3, hs2]
    clear hr2 hb2 hs2 hg3 hs3 c0 ra
    have hA3 := hr1.below (by omega) hb3
    have hT3 := HT1.out.later hb3
    have hB3 : Below w.heap.size w w3 := hb1.trans (hb3.mono (by omega))
    clear hr1 hb3
    obtain ⟨NA, hNA⟩ : ∃ NA, w.heap.size = NA := ⟨_, rfl⟩
    go_wp2_with fail
    obtain ⟨wd, hwd⟩ : ∃ wd, w3.drew = wd := ⟨_, rfl⟩
    have hSc : Below wd.heap.size wd w3.drew := by rw [hwd]; exact Below.refl _ _
    refine wp_region_held_drew (S := fun W => Below wd.heap.size wd W) (by kernel_rfl) hSc (fun hHeld => ?_)
    have hT := hT3.drew
    have hA := hA3.drew
    have hO := hr3.drew
    have hBd := hB3.drew
    rw [hwd] at hSc hHeld hT hA hO hBd ⊢
    rw [hNA] at hA hBd
    rw [hNA] at hO
    rw [hNA]
    have ltA : NA < wd.heap.size := by rw [← hwd, ← hNA]; simp; omega
    have ltO : NA + 1 < wd.heap.size := by rw [← hwd, ← hNA]; simp; omega
    have ltb := hT.blt
    have ltg := hT.glt
    clear hwd hA3 hr3 hT3 hB3 hz3
    refine wpAnyH_take (i := 0) (oi := ⟨_, _, _, _, _, _⟩) (v := ?_) rfl (by kernel_rfl) (by kernel_rfl) (by kernel_rfl) (fun _ _ _ h => h) (Or.inl ⟨by rfl, ?_⟩) (by assumption) ?_
    rotate_left
    · intro W hSW; go_simp; try with_reducible rfl
    try simp only [Act.put, List.setIfInBounds_toArray, List.set_cons_zero, List.set_cons_succ]
    refine wpAnyH_take (i := 1) (oi := ⟨_, _, _, _, _, _⟩) (v := ?_) rfl (by kernel_rfl) (by kernel_rfl) (by kernel_rfl) (fun _ _ _ h => h) (Or.inl ⟨by rfl, ?_⟩) (by assumption) ?_
    rotate_left
    · intro W hSW; refine exec_load_row 23 (.tmp 7) ?_ (NA + 1) ?_ _ (hO.below ltO hSW) Try.underlying23 rfl HszO.out <;> rfl
    try simp only [Act.put, List.setIfInBounds_toArray, List.set_cons_zero, List.set_cons_succ]
    refine wpAnyH_take (i := 2) (oi := ⟨_, _, _, _, _, _⟩) (v := ?_) rfl (by kernel_rfl) (by kernel_rfl) (by kernel_rfl) (fun _ _ _ h => h) (Or.inl ⟨by rfl, ?_⟩) (by assumption) ?_
    rotate_left
    · intro W hSW; go_simp; try with_reducible rfl
    try simp only [Act.put, List.setIfInBounds_toArray, List.set_cons_zero, List.set_cons_succ]
    refine wpAnyH_take (i := 4) (oi := ⟨_, _, _, _, _, _⟩) (v := ?_) rfl (by kernel_rfl) (by kernel_rfl) (by kernel_rfl) (fun _ _ _ h => h) (Or.inl ⟨by rfl, ?_⟩) (by assumption) ?_
    rotate_left
    · intro W hSW; go_simp; try with_reducible rfl
    try simp only [Act.put, List.setIfInBounds_toArray, List.set_cons_zero, List.set_cons_succ]
    refine wpAnyH_take (i := 5) (oi := ⟨_, _, _, _, _, _⟩) (v := ?_) rfl (by kernel_rfl) (by kernel_rfl) (by kernel_rfl) (fun _ _ _ h => h) (Or.inl ⟨by rfl, ?_⟩) (by assumption) ?_
    rotate_left
    · intro W hSW; refine exec_load_row 23 (.tmp 5) ?_ NA ?_ _ (hA.below ltA hSW) Try.underlying23 rfl HszA.out <;> rfl
    try simp only [Act.put, List.setIfInBounds_toArray, List.set_cons_zero, List.set_cons_succ]
    refine wpAnyH_take (i := 6) (oi := ⟨_, _, _, _, _, _⟩) (v := ?_) rfl (by kernel_rfl) (by kernel_rfl) (by kernel_rfl) (fun _ _ _ h => h) (Or.inl ⟨by rfl, ?_⟩) (by assumption) ?_
    rotate_left
    · intro W hSW; go_simp; try with_reducible rfl
    try simp only [Act.put, List.setIfInBounds_toArray, List.set_cons_zero, List.set_cons_succ]
    refine wpAnyH_ready (rs := [3]) (by kernel_rfl) (by simp) ?_
    refine AllReadyH.cons (o := ⟨_, _, _, _, _, _⟩) rfl (fun K hK => ?_) AllReadyH.nil
    go_simp
    refine (tdist_any _ b g c n hn l (hT.below hSc ltb ltg) f.adr p hp).mono ?_
    rintro r wx1 ⟨rfl, hb⟩
    try simp only []
    have hSwx1 := hSc.trans (hb.mono hSc.size)
    refine hK.out _ _ hSwx1 (fun hHeld => ?_)
    clear hK K hb hSc
    have hSc := hSwx1
    clear hSwx1
    try simp only [Act.put, List.setIfInBounds_toArray, List.set_cons_zero, List.set_cons_succ]
    refine wpAnyH_ready (rs := [7]) (by kernel_rfl) (by simp) ?_
    refine AllReadyH.cons (o := ⟨_, _, _, _, _, _⟩) rfl (fun K hK => ?_) AllReadyH.nil
    go_simp
    refine (tdist_any _ b g c n hn l (hT.below hSc ltb ltg) a p hp).mono ?_
    rintro r wx2 ⟨rfl, hb⟩
    try simp only []
    have hSwx2 := hSc.trans (hb.mono hSc.size)
    refine hK.out _ _ hSwx2 (fun hHeld => ?_)
    clear hK K hb hSc
    have hSc := hSwx2
    clear hSwx2
    try simp only [Act.put, List.setIfInBounds_toArray, List.set_cons_zero, List.set_cons_succ]
    refine wpAnyH_take (i := 8) (oi := ⟨_, _, _, _, _, _⟩) (v := ?_) rfl (by kernel_rfl) (by kernel_rfl) (by kernel_rfl) (fun _ _ _ h => h) (Or.inl ⟨by rfl, ?_⟩) (by assumption) ?_
    rotate_left
    · intro W hSW; go_simp; try with_reducible rfl
    try simp only [Act.put, List.setIfInBounds_toArray, List.set_cons_zero, List.set_cons_succ]
    refine wpAnyH_take (i := 9) (oi := ⟨_, _, _, _, _, _⟩) (v := ?_) rfl (by kernel_rfl) (by kernel_rfl) (by kernel_rfl) (fun _ _ _ h => h) (Or.inl ⟨by rfl, ?_⟩) (by assumption) ?_
    rotate_left
    · intro W hSW; go_simp; try with_reducible rfl
    try simp only [Act.put, List.setIfInBounds_toArray, List.set_cons_zero, List.set_cons_succ]
    refine wpAnyH_done (by kernel_rfl) ?_ _
    have hT2 := hT.below hSc ltb ltg
    have hA2 := hA.below ltA hSc
    have hO2 := hO.below ltO hSc
    have hB2 : Below w.heap.size w wx2 := by rw [hNA]; exact hBd.trans (hSc.mono (by omega))
    have Hg : Hid (goesB n hn a f.adr p = (decide ((ruleT n hn).far f.adr p < (ruleT n hn).far a p) || (decide ((ruleT n hn).far f.adr p = (ruleT n hn).far a p) && Op.bytesLess a.1 f.adr.1))) := rfl
    clear hT hA hO hBd ltA ltO ltb ltg hSc HT1
    generalize (ruleT n hn).far f.adr p = x at *
    generalize (ruleT n hn).far a p = y at *
    by_cases h1 : x < y
    · have hd : decide ((x : Int) < (y : Int)) = true := decide_eq_true (by omega)
      rw [decide_eq_true h1] at Hg
      go_wp2_with fail
      go_ret
      exact ⟨by rw [Hg.out, decide_eq_false hc]; rfl, hB2⟩
    · have hd : decide ((x : Int) < (y : Int)) = false := decide_eq_false (by omega)
      rw [decide_eq_false h1] at Hg
      by_cases h2 : x = y
      · have hd2 : ((x : Int) == (y : Int)) = true := by rw [beq_iff_eq]; omega
        rw [decide_eq_true h2] at Hg
        have qA := Lib.hid (row_range hA2)
        have qO := Lib.hid (row_range hO2)
        go_wp2_with (first
          | ((with_reducible refine at_loadG 23 ?_); refine wpList_load_midG rfl 23 _ rfl NA 0 rfl (cells a.1) _ qA.out Try.underlying23 rfl HszA.out ?_)
          | ((with_reducible refine at_loadG 23 ?_); refine wpList_load_midG rfl 23 _ rfl (NA + 1) 0 rfl (cells f.adr.1) _ qO.out Try.underlying23 rfl HszO.out ?_))
        refine (less_any a.1 f.adr.1 a.2 f.adr.2 wx2).mono ?_
        rintro r wx3 ⟨rfl, hb3⟩
        go_wp2_with fail
        go_ret
        exact ⟨by rw [Hg.out, decide_eq_false hc]; rfl, hB2.trans (hb3.mono hB2.size)⟩
      · have hd2 : ((x : Int) == (y : Int)) = false := by rw [beq_eq_false_iff_ne]; omega
        rw [decide_eq_false h2] at Hg
        go_wp2_with fail
        go_ret
        exact ⟨by rw [Hg.out, decide_eq_false hc]; rfl, hB2⟩
end Go.Proofs.Ytkkllmjomdbndaa
