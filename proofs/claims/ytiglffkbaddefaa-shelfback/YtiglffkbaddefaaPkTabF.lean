/-
  Layer 11: the contracts of distance, displaced, yields, valid.
  Layer 11: the contract of yields.
  Layer 11: the contracts of Len and find.
  Layer 11: the contract of insert.
  Layer 11: the contract of Put.
-/
import Derived.Test.YtiglffkbaddefaaPkTabA
import Derived.Test.YtiglffkbaddefaaPkExecRow
import Derived.Deep.RegionHeld3
namespace Go.Proofs.Ytiglffkbaddefaa
open Go.RowKit
set_option linter.unusedVariables false
set_option linter.unusedSimpArgs false

theorem far_mod {n h p : Nat} (hh : h < n) (hp : p < n) : ((p : Int) - (h : Int) + (n : Int)) % (n : Int) = ((farF n h p : Nat) : Int) := by
  unfold farF
  split
  · rw [show (p : Int) - h + n = ((p - h : Nat) : Int) + n by omega, Int.add_emod_right, Int.emod_eq_of_lt (by omega) (by omega)]
  · rw [Int.emod_eq_of_lt (by omega) (by omega)]; omega
/-- Of two that want a place. -/
def goesB (n : Nat) (hn : 0 < n) (a b : Adr) (p : Nat) : Bool := decide ((ruleT n hn).far b p < (ruleT n hn).far a p) || (decide ((ruleT n hn).far b p = (ruleT n hn).far a p) && Op.bytesLess a.1 b.1)
theorem goesB_iff {n : Nat} {hn : 0 < n} {a b : Adr} {p : Nat} : goesB n hn a b p = true ↔ (ruleT n hn).goes a b p := by
  unfold goesB Rule.goes
  simp only [Bool.or_eq_true, Bool.and_eq_true, decide_eq_true_eq]
  constructor
  · rintro (h | ⟨h, k⟩)
    · exact .inl h
    · exact .inr ⟨h.symm, k⟩
  · rintro (h | ⟨h, k⟩)
    · exact .inl h
    · exact .inr ⟨h.symm, k⟩
theorem goesB_no {n : Nat} {hn : 0 < n} {a b : Adr} {p : Nat} : goesB n hn a b p = false ↔ ¬ (ruleT n hn).goes a b p := by rw [← goesB_iff]; simp

set_option maxRecDepth 100000 in
set_option maxHeartbeats 1000000 in
theorem tdist_any (w : World) (b g c n : Nat) (hn : 0 < n) (l : List Ent) (h : TabAt w b g c n l) (a : Adr) (p : Nat) (hp : p < n) :
    Calls Try.prog 55 #[.pointer (some ⟨b, 0, none⟩), a.val, .int .i64 (p : Int)] w fun r w' => r = .returned (.int .i64 (((ruleT n hn).far a p : Nat) : Int)) ∧ Below w.heap.size w w' := by
  have hle := h.le
  have Hh := Lib.hid h
  have Hsz := Lib.hid (adr_size a)
  clear h
  go_enter Try.func55, Try.ntmps55
  go_wp2_with (with_reducible refine at_box 30 ?_; refine wpList_box_rowV rfl 30 _ rfl (cells a.1) rfl ?_)
  intro w1 hr1 hb1 hs1
  have hT1 := Hh.out.later hb1
  have c0 := hT1.ptr.cell
  have Hr := Lib.hid (row_range hr1)
  go_wp2_with ((with_reducible refine at_load 30 ?_); refine wpList_load_mid rfl 30 _ rfl w.heap.size 0 rfl (cells a.1) _ Hr.out Try.underlying30 rfl Hsz.out ?_)
  refine (thome_any w1 b g c n hn l hT1 a).mono ?_
  rintro e w2 ⟨rfl, hb2⟩
  have hh := (ruleT n hn).home_lt a
  have hh' : (ruleT n hn).home a < n := hh
  have hf := far_mod hh' hp
  have hfl : farF n ((ruleT n hn).home a) p < n := farF_lt hh' hp
  have Hf : Hid (farF n ((ruleT n hn).home a) p = (ruleT n hn).far a p) := rfl
  generalize farF n ((ruleT n hn).home a) p = d at *
  generalize (ruleT n hn).home a = q at *
  generalize hdd : (ruleT n hn).far a p = dd at *
  clear hh
  go_wp2_with fail
  go_ret
  exact ⟨by rw [hdd, ← Hf.out, ← hf]; rfl, hb1.trans (hb2.mono (by omega))⟩

set_option maxRecDepth 100000 in
set_option maxHeartbeats 1000000 in
theorem tdisp_any (w : World) (b g c n : Nat) (hn : 0 < n) (l : List Ent) (h : TabAt w b g c n l) (p : Nat) (e : Ent) (he : l[p]? = some e) :
    Calls Try.prog 42 #[.pointer (some ⟨b, 0, none⟩), .int .i64 (p : Int)] w fun r w' => r = .returned (.bool (decide (e.count ≠ 0 ∧ p ≠ (ruleT n hn).home e.adr))) ∧ Below w.heap.size w w' := by
  have hle := h.le
  have hcap := h.cap
  have hp : p < n := by have := (List.getElem?_eq_some_iff.1 he).1; rw [h.len] at this; exact this
  have hp' : (p : Int) < (n : Int) := by omega
  have c0 := h.ptr.cell
  have ra := ent_adr h.row he
  have Hsz := Lib.hid (adr_size e.adr)
  have Hh := Lib.hid h
  have He := Lib.hid he
  clear h he
  by_cases hc : e.count = 0
  · have hd : decide (e.count ≠ 0 ∧ p ≠ (ruleT n hn).home e.adr) = false := by simp [hc]
    rw [hd]
    go_enter Try.func42, Try.ntmps42
    go_wp2_with fail
    refine (tempty_any _ b g c n l Hh.out p e He.out).mono ?_
    rintro r w1 ⟨rfl, rfl⟩
    rw [decide_eq_true hc]
    clear hd
    go_wp2_with fail
    go_ret
    exact ⟨rfl, Below.refl _ _⟩
  · have Hd : Hid (decide (e.count ≠ 0 ∧ p ≠ (ruleT n hn).home e.adr) = decide (0 < (ruleT n hn).far e.adr p)) := by
      show _ = _
      rw [decide_eq_decide]
      have h0 : (ruleT n hn).home e.adr < n := (ruleT n hn).home_lt _
      constructor
      · rintro ⟨_, h2⟩
        refine Nat.pos_of_ne_zero fun h3 => h2 ?_
        exact farF_inj h0 hp h0 (h3.trans (farF_self n _).symm)
      · intro h2
        refine ⟨hc, ?_⟩
        rintro h3
        have h4 : (ruleT n hn).far e.adr p = farF n ((ruleT n hn).home e.adr) p := rfl
        have h5 := farF_self n ((ruleT n hn).home e.adr)
        rw [← h3] at h5
        rw [h4, ← h3] at h2
        omega
    rw [Hd.out]
    go_enter Try.func42, Try.ntmps42
    go_wp2_with fail
    refine (tempty_any _ b g c n l Hh.out p e He.out).mono ?_
    rintro r w1 ⟨rfl, rfl⟩
    rw [decide_eq_false hc]
    go_wp2_with ((with_reducible refine at_loadGR 30 ?_); refine wpList_load_midG rfl 30 _ rfl g (p * 34) rfl (cells e.adr.1) _ ra Try.underlying30 rfl Hsz.out ?_)
    refine (tdist_any w1 b g c n hn l Hh.out e.adr p hp).mono ?_
    rintro r w2 ⟨rfl, hb2⟩
    generalize hdd : (ruleT n hn).far e.adr p = d at *
    go_wp2_with fail
    go_ret
    refine ⟨?_, hb2⟩
    rw [hdd]
    have : decide ((d : Int) > 0) = decide (0 < d) := by rw [decide_eq_decide]; omega
    rw [← this]
    rfl

/-- What may stand in a table. -/
def Ent.ok (e : Ent) : Prop := 1 ≤ e.count ∧ e.count ≤ 1099511627776 ∧ 0 ≤ e.slot ∧ e.slot < 200
instance (e : Ent) : Decidable e.ok := by unfold Ent.ok; infer_instance

set_option maxRecDepth 100000 in
set_option maxHeartbeats 1000000 in
theorem tvalid_any (w : World) (e : Ent) : Calls Try.prog 25 #[e.val] w fun r w' => r = .returned (.bool (decide e.ok)) ∧ Below w.heap.size w w' := by
  obtain ⟨a, s, c⟩ := e
  have Hok : ∀ b : Bool, (decide (1 ≤ c) && decide (c ≤ 1099511627776) && decide (0 ≤ s) && decide (s < 200)) = b → decide (Ent.ok ⟨a, s, c⟩) = b := by
    intro b h
    rw [← h, Bool.eq_iff_iff]
    simp only [Bool.and_eq_true, decide_eq_true_eq (p := Ent.ok _), decide_eq_true_eq, and_assoc]
    exact Iff.rfl
  go_enter Try.func25, Try.ntmps25
  go_wp2_with ((with_reducible refine at_box 32 ?_); refine wpList_box_rowV rfl 32 _ rfl (Ent.cs ⟨a, s, c⟩) rfl ?_)
  intro w1 hr1 hb1 hs1
  have c1 := hr1.cell (Ent.get_slot ⟨a, s, c⟩)
  have c2 := hr1.cell (Ent.get_count ⟨a, s, c⟩)
  simp only at c1 c2
  by_cases h1 : 1 ≤ c
  · by_cases h2 : c ≤ 1099511627776
    · by_cases h3 : 0 ≤ s
      · have g1 : decide (1 ≤ c) = true := decide_eq_true h1
        have g2 : decide (c ≤ 1099511627776) = true := decide_eq_true h2
        have g3 : decide (0 ≤ s) = true := decide_eq_true h3
        have Hb := Lib.hid (Hok (decide (s < 200)) (by simp [g1, g2, g3]))
        clear Hok
        go_wp2_with fail
        all_goals
          go_ret
          exact ⟨by rw [Hb.out]; rfl, hb1⟩
      · have g1 : decide (1 ≤ c) = true := decide_eq_true h1
        have g2 : decide (c ≤ 1099511627776) = true := decide_eq_true h2
        have g3 : decide (0 ≤ s) = false := decide_eq_false h3
        have Hb := Lib.hid (Hok false (by simp [g3]))
        clear Hok
        go_wp2_with fail
        all_goals
          go_ret
          exact ⟨by rw [Hb.out]; rfl, hb1⟩
    · have g1 : decide (1 ≤ c) = true := decide_eq_true h1
      have g2 : decide (c ≤ 1099511627776) = false := decide_eq_false h2
      have Hb := Lib.hid (Hok false (by simp [g2]))
      clear Hok
      go_wp2_with fail
      all_goals
        go_ret
        exact ⟨by rw [Hb.out]; rfl, hb1⟩
  · have g1 : decide (1 ≤ c) = false := decide_eq_false h1
    have Hb := Lib.hid (Hok false (by simp [g1]))
    clear Hok
    go_wp2_with fail
    all_goals
      go_ret
      exact ⟨by rw [Hb.out]; rfl, hb1⟩
end Go.Proofs.Ytiglffkbaddefaa
namespace Go.Proofs.Ytiglffkbaddefaa
open Go.RowKit
set_option linter.unusedVariables false
set_option linter.unusedSimpArgs false

set_option maxRecDepth 100000 in
set_option maxHeartbeats 4000000 in
theorem tyields_any (w : World) (b g c n : Nat) (hn : 0 < n) (l : List Ent) (h : TabAt w b g c n l) (p : Nat) (f : Ent) (hf : l[p]? = some f) (a : Adr) :
    Calls Try.prog 44 #[.pointer (some ⟨b, 0, none⟩), .int .i64 (p : Int), a.val] w fun r w' => r = .returned (.bool (decide (f.count = 0) || goesB n hn a f.adr p)) ∧ Below w.heap.size w w' := by
  have hle := h.le
  have hcap := h.cap
  have hp : p < n := by have := (List.getElem?_eq_some_iff.1 hf).1; rw [h.len] at this; exact this
  have hp' : (p : Int) < (n : Int) := by omega
  have HszA := Lib.hid (adr_size a)
  have HszO := Lib.hid (adr_size f.adr)
  have Hh := Lib.hid h
  have Hf := Lib.hid hf
  have hbl := h.blt
  have hgl := h.glt
  clear h hf
  go_enter Try.func44, Try.ntmps44
  go_wp2_with ((with_reducible refine at_box 30 ?_); refine wpList_box_rowV rfl 30 _ rfl (cells a.1) rfl ?_)
  intro w1 hr1 hb1 hs1
  have hT1 := Hh.out.later hb1
  have HT1 := Lib.hid hT1
  go_wp2_with fail
  refine (tempty_any w1 b g c n l hT1 p f Hf.out).mono ?_
  rintro r w1' ⟨rfl, hw⟩
  rw [hw]
  clear hw w1'
  by_cases hc : f.count = 0
  · rw [decide_eq_true hc]
    go_wp2_with fail
    go_ret
    exact ⟨by simp [hc], hb1⟩
  · rw [decide_eq_false hc]
    have c0 := hT1.ptr.cell
    have ra := ent_adr hT1.row Hf.out
    clear hT1
    go_wp2_with (first
      | ((with_reducible refine at_load 30 ?_); refine wpList_load_mid rfl 30 _ rfl g (p * 34) rfl (cells f.adr.1) _ ra Try.underlying30 rfl HszO.out ?_)
      | ((with_reducible refine at_alloc 30 ?_); refine wpList_alloc_rowV rfl 30 rfl (cells zeroAdr.1) Try.zeroA32 ?_; intro w2 hr2 hb2 hs2; rw [hs1] at hr2 hb2 ⊢)
      | ((with_reducible refine at_store 30 ?_); refine wpList_store_rowV rfl 30 _ _ rfl (w.heap.size + 1) (cells f.adr.1) rfl rfl 30 (cells zeroAdr.1) hr2 (by rw [List.size_toArray]; exact adr_size _) (by rw [List.size_toArray, List.size_toArray, cells_length, cells_length, f.adr.2, zeroAdr.2]) (all_oneCell_toArray (cells_one _)) ?_; intro w3 hr3 hg3 hs3))
    have hb3 : Below w1.heap.size w1 w3 := by rw [hs1]; exact below_grown hb2 hg3 (Nat.le_refl _) (by have := hb2.size; omega)
    have hz3 : w3.heap.size = w1.heap.size + 1 := by rw [hs3, hs2]
    clear hr2 hb2 hs2 hg3 hs3 c0 ra
    have hA3 := hr1.below (by omega) hb3
    have hT3 := HT1.out.later hb3
    have hB3 : Below w.heap.size w w3 := hb1.trans (hb3.mono (by omega))
    clear hr1 hb3
    obtain ⟨NA, hNA⟩ : ∃ NA, w.heap.size = NA := ⟨_, rfl⟩
    go_wp2_with fail
    obtain ⟨wd, hwd⟩ : ∃ wd, w3.drew = wd := ⟨_, rfl⟩
    have hSc : Below wd.heap.size wd w3.drew := by rw [hwd]; exact Below.refl _ _
    refine wp_region_held_drew (S := fun W => Below wd.heap.size wd W) (by kernel_rfl) hSc (fun hHeld => ?_)
    have hT := hT3.drew
    have hA := hA3.drew
    have hO := hr3.drew
    have hBd := hB3.drew
    rw [hwd] at hSc hHeld hT hA hO hBd ⊢
    rw [hNA] at hA hBd
    rw [hNA] at hO
    rw [hNA]
    have ltA : NA < wd.heap.size := by rw [← hwd, ← hNA]; simp; omega
    have ltO : NA + 1 < wd.heap.size := by rw [← hwd, ← hNA]; simp; omega
    have ltb := hT.blt
    have ltg := hT.glt
    clear hwd hA3 hr3 hT3 hB3 hz3
    refine wpAnyH_take (i := 0) (oi := ⟨_, _, _, _, _, _⟩) (v := ?_) rfl (by kernel_rfl) (by kernel_rfl) (by kernel_rfl) (fun _ _ _ h => h) (Or.inl ⟨by rfl, ?_⟩) (by assumption) ?_
    rotate_left
    · intro W hSW; go_simp; try with_reducible rfl
    try simp only [Act.put, List.setIfInBounds_toArray, List.set_cons_zero, List.set_cons_succ]
    refine wpAnyH_take (i := 1) (oi := ⟨_, _, _, _, _, _⟩) (v := ?_) rfl (by kernel_rfl) (by kernel_rfl) (by kernel_rfl) (fun _ _ _ h => h) (Or.inl ⟨by rfl, ?_⟩) (by assumption) ?_
    rotate_left
    · intro W hSW; refine exec_load_row 30 (.tmp 7) ?_ (NA + 1) ?_ _ (hO.below ltO hSW) Try.underlying30 rfl HszO.out <;> rfl
    try simp only [Act.put, List.setIfInBounds_toArray, List.set_cons_zero, List.set_cons_succ]
    refine wpAnyH_take (i := 2) (oi := ⟨_, _, _, _, _, _⟩) (v := ?_) rfl (by kernel_rfl) (by kernel_rfl) (by kernel_rfl) (fun _ _ _ h => h) (Or.inl ⟨by rfl, ?_⟩) (by assumption) ?_
    rotate_left
    · intro W hSW; go_simp; try with_reducible rfl
    try simp only [Act.put, List.setIfInBounds_toArray, List.set_cons_zero, List.set_cons_succ]
    refine wpAnyH_take (i := 4) (oi := ⟨_, _, _, _, _, _⟩) (v := ?_) rfl (by kernel_rfl) (by kernel_rfl) (by kernel_rfl) (fun _ _ _ h => h) (Or.inl ⟨by rfl, ?_⟩) (by assumption) ?_
    rotate_left
    · intro W hSW; go_simp; try with_reducible rfl
    try simp only [Act.put, List.setIfInBounds_toArray, List.set_cons_zero, List.set_cons_succ]
    refine wpAnyH_take (i := 5) (oi := ⟨_, _, _, _, _, _⟩) (v := ?_) rfl (by kernel_rfl) (by kernel_rfl) (by kernel_rfl) (fun _ _ _ h => h) (Or.inl ⟨by rfl, ?_⟩) (by assumption) ?_
    rotate_left
    · intro W hSW; refine exec_load_row 30 (.tmp 5) ?_ NA ?_ _ (hA.below ltA hSW) Try.underlying30 rfl HszA.out <;> rfl
    try simp only [Act.put, List.setIfInBounds_toArray, List.set_cons_zero, List.set_cons_succ]
    refine wpAnyH_take (i := 6) (oi := ⟨_, _, _, _, _, _⟩) (v := ?_) rfl (by kernel_rfl) (by kernel_rfl) (by kernel_rfl) (fun _ _ _ h => h) (Or.inl ⟨by rfl, ?_⟩) (by assumption) ?_
    rotate_left
    · intro W hSW; go_simp; try with_reducible rfl
    try simp only [Act.put, List.setIfInBounds_toArray, List.set_cons_zero, List.set_cons_succ]
    refine wpAnyH_ready (rs := [3]) (by kernel_rfl) (by simp) ?_
    refine AllReadyH.cons (o := ⟨_, _, _, _, _, _⟩) rfl (fun K hK => ?_) AllReadyH.nil
    go_simp
    refine (tdist_any _ b g c n hn l (hT.below hSc ltb ltg) f.adr p hp).mono ?_
    rintro r wx1 ⟨rfl, hb⟩
    try simp only []
    have hSwx1 := hSc.trans (hb.mono hSc.size)
    refine hK.out _ _ hSwx1 (fun hHeld => ?_)
    clear hK K hb hSc
    have hSc := hSwx1
    clear hSwx1
    try simp only [Act.put, List.setIfInBounds_toArray, List.set_cons_zero, List.set_cons_succ]
    refine wpAnyH_ready (rs := [7]) (by kernel_rfl) (by simp) ?_
    refine AllReadyH.cons (o := ⟨_, _, _, _, _, _⟩) rfl (fun K hK => ?_) AllReadyH.nil
    go_simp
    refine (tdist_any _ b g c n hn l (hT.below hSc ltb ltg) a p hp).mono ?_
    rintro r wx2 ⟨rfl, hb⟩
    try simp only []
    have hSwx2 := hSc.trans (hb.mono hSc.size)
    refine hK.out _ _ hSwx2 (fun hHeld => ?_)
    clear hK K hb hSc
    have hSc := hSwx2
    clear hSwx2
    try simp only [Act.put, List.setIfInBounds_toArray, List.set_cons_zero, List.set_cons_succ]
    refine wpAnyH_take (i := 8) (oi := ⟨_, _, _, _, _, _⟩) (v := ?_) rfl (by kernel_rfl) (by kernel_rfl) (by kernel_rfl) (fun _ _ _ h => h) (Or.inl ⟨by rfl, ?_⟩) (by assumption) ?_
    rotate_left
    · intro W hSW; go_simp; try with_reducible rfl
    try simp only [Act.put, List.setIfInBounds_toArray, List.set_cons_zero, List.set_cons_succ]
    refine wpAnyH_take (i := 9) (oi := ⟨_, _, _, _, _, _⟩) (v := ?_) rfl (by kernel_rfl) (by kernel_rfl) (by kernel_rfl) (fun _ _ _ h => h) (Or.inl ⟨by rfl, ?_⟩) (by assumption) ?_
    rotate_left
    · intro W hSW; go_simp; try with_reducible rfl
    try simp only [Act.put, List.setIfInBounds_toArray, List.set_cons_zero, List.set_cons_succ]
    refine wpAnyH_done (by kernel_rfl) ?_ _
    have hT2 := hT.below hSc ltb ltg
    have hA2 := hA.below ltA hSc
    have hO2 := hO.below ltO hSc
    have hB2 : Below w.heap.size w wx2 := by rw [hNA]; exact hBd.trans (hSc.mono (by omega))
    have Hg : Hid (goesB n hn a f.adr p = (decide ((ruleT n hn).far f.adr p < (ruleT n hn).far a p) || (decide ((ruleT n hn).far f.adr p = (ruleT n hn).far a p) && Op.bytesLess a.1 f.adr.1))) := rfl
    clear hT hA hO hBd ltA ltO ltb ltg hSc HT1
    generalize (ruleT n hn).far f.adr p = x at *
    generalize (ruleT n hn).far a p = y at *
    by_cases h1 : x < y
    · have hd : decide ((x : Int) < (y : Int)) = true := decide_eq_true (by omega)
      rw [decide_eq_true h1] at Hg
      go_wp2_with fail
      go_ret
      exact ⟨by rw [Hg.out, decide_eq_false hc]; rfl, hB2⟩
    · have hd : decide ((x : Int) < (y : Int)) = false := decide_eq_false (by omega)
      rw [decide_eq_false h1] at Hg
      by_cases h2 : x = y
      · have hd2 : ((x : Int) == (y : Int)) = true := by rw [beq_iff_eq]; omega
        rw [decide_eq_true h2] at Hg
        have qA := Lib.hid (row_range hA2)
        have qO := Lib.hid (row_range hO2)
        go_wp2_with (first
          | ((with_reducible refine at_loadGR 30 ?_); refine wpList_load_midG rfl 30 _ rfl NA 0 rfl (cells a.1) _ qA.out Try.underlying30 rfl HszA.out ?_)
          | ((with_reducible refine at_loadGR 30 ?_); refine wpList_load_midG rfl 30 _ rfl (NA + 1) 0 rfl (cells f.adr.1) _ qO.out Try.underlying30 rfl HszO.out ?_))
        refine (less_any a.1 f.adr.1 a.2 f.adr.2 wx2).mono ?_
        rintro r wx3 ⟨rfl, hb3⟩
        go_wp2_with fail
        go_ret
        exact ⟨by rw [Hg.out, decide_eq_false hc]; rfl, hB2.trans (hb3.mono hB2.size)⟩
      · have hd2 : ((x : Int) == (y : Int)) = false := by rw [beq_eq_false_iff_ne]; omega
        rw [decide_eq_false h2] at Hg
        go_wp2_with fail
        go_ret
        exact ⟨by rw [Hg.out, decide_eq_false hc]; rfl, hB2⟩
end Go.Proofs.Ytiglffkbaddefaa
namespace Go.Proofs.Ytiglffkbaddefaa
open Go.RowKit
set_option linter.unusedVariables false
set_option linter.unusedSimpArgs false

theorem cntT_take {l : List Ent} {k : Nat} {e : Ent} (h : l[k]? = some e) : cntT (l.take (k + 1)) = cntT (l.take k) + (if e.count = 0 then 0 else 1) := by
  have e1 : l.take (k + 1) = l.take k ++ [e] := by
    obtain ⟨hk, rfl⟩ := List.getElem?_eq_some_iff.1 h
    exact List.take_succ_eq_append_getElem hk
  rw [e1]
  unfold cntT
  rw [List.countP_append]
  by_cases hc : e.count = 0 <;> simp [hc]

set_option maxRecDepth 100000 in
set_option maxHeartbeats 1000000 in
theorem tlen_any (w : World) (b g c n : Nat) (l : List Ent) (h : TabAt w b g c n l) :
    Calls Try.prog 18 #[.pointer (some ⟨b, 0, none⟩)] w fun r w' => r = .returned (.int .i64 ((cntT l : Nat) : Int)) ∧ w' = w := by
  have hle := h.le
  have c0 := h.ptr.cell
  have Hh := Lib.hid h
  have Hl := Lib.hid h.len
  clear h
  go_enter Try.func18, Try.ntmps18
  go_wp2_with fail
  go_loopw [3, 10] (fun s v W => ∃ k m : Nat, k ≤ n ∧ m ≤ k ∧ v = .int .i64 k ∧ s = .int .i64 m ∧ Hid (cntT (l.take k) = m) ∧ W = w) (fun _ v _ => n - (intOf v).toNat)
  case atStart => exact ⟨0, 0, Nat.zero_le _, Nat.zero_le _, rfl, rfl, by show _ = _; simp [cntT], rfl⟩
  case round =>
    obtain ⟨k, m, hk, hm, rfl, rfl, HC, rfl⟩ := hrel
    by_cases hlt : k < n
    · have hlt' : (k : Int) < (n : Int) := by omega
      obtain ⟨e, he⟩ := Hh.out.get hlt
      have Hs := Lib.hid (cntT_take he)
      have He := Lib.hid he
      clear he
      go_wp2_with fail
      refine (tempty_any _ b g c n l Hh.out k e He.out).mono ?_
      rintro r w1 ⟨rfl, rfl⟩
      by_cases hc : e.count = 0
      · rw [decide_eq_true hc]
        rw [if_pos hc] at Hs
        go_wp2_with fail
        go_roundw
        case rel => exact ⟨k + 1, m, by omega, by omega, by go_num, by go_num, by show _ = _; rw [Hs.out, HC.out]; rfl, trivial⟩
        case measure => simp [intOf]; omega
      · rw [decide_eq_false hc]
        rw [if_neg hc] at Hs
        go_wp2_with fail
        go_roundw
        case rel => exact ⟨k + 1, m + 1, by omega, by omega, by go_num, by go_num, by show _ = _; rw [Hs.out, HC.out], trivial⟩
        case measure => simp [intOf]; omega
    · obtain rfl : k = n := by omega
      have HC' : Hid (cntT l = m) := by have := HC.out; rw [List.take_of_length_le (by rw [Hl.out]; exact Nat.le_refl _)] at this; exact this
      go_wp2_with fail
      go_ret
      exact ⟨by rw [HC'.out]; rfl, rfl⟩

/-- What a search answers. -/
def Found (l : List Ent) (a : Adr) (r : Value) : Prop :=
  (∃ (k : Nat) (e : Ent), r = .tuple #[.int .i64 (k : Int), .bool true] ∧ l[k]? = some e ∧ e.count ≠ 0 ∧ e.adr = a) ∨ (r = .tuple #[.int .i64 0, .bool false] ∧ ∀ e ∈ l, e.count ≠ 0 → e.adr ≠ a)
/-- i places have been passed, and the search stands before place p. -/
structure Seek (n : Nat) (hn : 0 < n) (l : List Ent) (a : Adr) (i p : Nat) : Prop where
  at_ : p < n
  far : i < n → (ruleT n hn).far a p = i
  no : ∀ q f, q < n → (ruleT n hn).far a q < i → layT l q = some f → f.adr ≠ a
section
variable {n : Nat} {hn : 0 < n} {l : List Ent} {a : Adr}
theorem Seek.start : Seek n hn l a 0 ((ruleT n hn).home a) := ⟨(ruleT n hn).home_lt a, fun _ => farF_self _ _, fun q f _ h => by omega⟩
theorem Seek.next {i p : Nat} {f : Ent} (h : Seek n hn l a i p) (hi : i < n) (hf : l[p]? = some f) (hne : f.count = 0 ∨ f.adr ≠ a) : Seek n hn l a (i + 1) (nextP n p) := by
  have hp := h.at_
  have hfar := h.far hi
  have hh : (ruleT n hn).home a < n := (ruleT n hn).home_lt a
  refine ⟨nextP_lt hp, fun h1 => ?_, fun q g hq hlt hg => ?_⟩
  · by_cases hb : nextP n p = (ruleT n hn).home a
    · have h2 : (ruleT n hn).far a p = n - 1 := by
        show farF n ((ruleT n hn).home a) p = n - 1
        rw [← hb]
        exact farF_next_home hp
      omega
    · have h2 : (ruleT n hn).far a (nextP n p) = (ruleT n hn).far a p + 1 := farF_next hh hp hb
      omega
  · by_cases h1 : (ruleT n hn).far a q < i
    · exact h.no q g hq h1 hg
    · have h2 : q = p := farF_inj hh hq hp (show (ruleT n hn).far a q = (ruleT n hn).far a p by omega)
      subst h2
      obtain ⟨h3, h4⟩ := layT_some hg
      rw [hf] at h3
      cases h3
      exact hne.resolve_left h4
theorem Seek.all {p : Nat} (h : Seek n hn l a n p) (hl : l.length = n) : ∀ e ∈ l, e.count ≠ 0 → e.adr ≠ a := by
  intro e he hc
  obtain ⟨q, hq, rfl⟩ := List.mem_iff_getElem.1 he
  exact h.no q _ (by omega) (farF_lt ((ruleT n hn).home_lt a) (show q < n by omega)) (by rw [layT_at (List.getElem?_eq_getElem hq), if_neg hc])
theorem Seek.out {i p : Nat} {f : Ent} (h : Seek n hn l a i p) (hi : i < n) (ht : Tb n hn l) (hf : l[p]? = some f) (hy : f.count = 0 ∨ (ruleT n hn).goes a f.adr p) : ∀ e ∈ l, e.count ≠ 0 → e.adr ≠ a := by
  have hfar := h.far hi
  have := Fine.absent (R := ruleT n hn) (key := Ent.adr) ht.fine (k := a) (p := p) h.at_ (fun q g hq hlt hg => h.no q g hq (by omega) hg) (by
    by_cases hc : f.count = 0
    · exact .inl (by rw [layT_at hf, if_pos hc])
    · refine .inr ⟨f, by rw [layT_at hf, if_neg hc], ?_, hy.resolve_left hc⟩
      rintro rfl
      exact Rule.goes_asym (hy.resolve_left hc) (hy.resolve_left hc))
  intro e he hc
  obtain ⟨q, hq, rfl⟩ := List.mem_iff_getElem.1 he
  exact this q _ (show q < n by rw [← ht.len]; exact hq) (by rw [layT_at (List.getElem?_eq_getElem hq), if_neg hc])
end

set_option maxRecDepth 100000 in
set_option maxHeartbeats 4000000 in
theorem tfind_any (w : World) (b g c n : Nat) (hn : 0 < n) (l : List Ent) (h : TabAt w b g c n l) (ht : Tb n hn l) (a : Adr) :
    Calls Try.prog 26 #[.pointer (some ⟨b, 0, none⟩), a.val] w fun r w' => ∃ v, r = .returned v ∧ Found l a v ∧ Below w.heap.size w w' := by
  have hle := h.le
  have Hh := Lib.hid h
  have Ht := Lib.hid ht
  have Hl := Lib.hid h.len
  have HszA := Lib.hid (adr_size a)
  have hcap := h.cap
  have hbl := h.blt
  have hgl := h.glt
  clear h ht
  go_enter Try.func26, Try.ntmps26
  go_wp2_with ((with_reducible refine at_box 30 ?_); refine wpList_box_rowV rfl 30 _ rfl (cells a.1) rfl ?_)
  intro w1 hr1 hb1 hs1
  have hT1 := Hh.out.later hb1
  have q1 := Lib.hid (row_range hr1)
  go_wp2_with ((with_reducible refine at_load 30 ?_); refine wpList_load_mid rfl 30 _ rfl w.heap.size 0 rfl (cells a.1) _ q1.out Try.underlying30 rfl HszA.out ?_)
  refine (thome_any w1 b g c n hn l hT1 a).mono ?_
  rintro r w2 ⟨rfl, hb2⟩
  have hT2 := hT1.later hb2
  have c0 := hT2.ptr.cell
  have HB2 : Hid (Below w.heap.size w w2) := hb1.trans (hb2.mono (by omega))
  have HA2 : Hid (RowV w2 w.heap.size 30 (cells a.1)) := hr1.below (by omega) hb2
  have hz2 : w.heap.size + 1 ≤ w2.heap.size := by have := hb2.size; omega
  have HS := Lib.hid (Seek.start (n := n) (hn := hn) (l := l) (a := a))
  have hh : (ruleT n hn).home a < n := (ruleT n hn).home_lt a
  clear hr1 hb1 hs1 hT1 hb2 hT2 q1
  generalize (ruleT n hn).home a = p0 at *
  obtain ⟨N, hN⟩ : ∃ N, w.heap.size = N := ⟨_, rfl⟩
  rw [hN] at HB2 HA2 hz2 hbl hgl ⊢
  go_wp2_with fail
  go_loopw [6, 15] (fun s v W => ∃ i p : Nat, i ≤ n ∧ p < n ∧ v = .int .i64 i ∧ s = .int .i64 p ∧ Hid (Seek n hn l a i p) ∧ Hid (Below N w W) ∧ Hid (RowV W N 30 (cells a.1))) (fun _ v _ => n - (intOf v).toNat)
  case atStart => exact ⟨0, p0, Nat.zero_le _, hh, rfl, rfl, HS, HB2, HA2⟩
  case round =>
    obtain ⟨i, p, hi, hp, rfl, rfl, HK, HB, HA⟩ := hrel
    clear HB2 HA2 hz2 c0 HS
    have hTr := Hh.out.below HB.out hbl hgl
    by_cases hlt : i < n
    · have hlt' : (i : Int) < (n : Int) := by omega
      obtain ⟨f, hf⟩ := hTr.get hp
      have Hf := Lib.hid hf
      have qr := Lib.hid (row_range HA.out)
      have HTr := Lib.hid hTr
      clear hf hTr
      go_wp2_with ((with_reducible refine at_load 30 ?_); refine wpList_load_mid rfl 30 _ rfl N 0 rfl (cells a.1) _ qr.out Try.underlying30 rfl HszA.out ?_)
      refine (tyields_any wr b g c n hn l HTr.out p f Hf.out a).mono ?_
      rintro r w3 ⟨rfl, hb3⟩
      have HNr : Hid (N < wr.heap.size) := HA.out.lt
      have HB3 : Hid (Below N w w3) := HB.out.trans (hb3.mono (by have := HNr.out; omega))
      have hA3 : RowV w3 N 30 (cells a.1) := HA.out.below HNr.out hb3
      have hT3 := HTr.out.later hb3
      clear hb3 HTr qr
      by_cases hy : (decide (f.count = 0) || goesB n hn a f.adr p) = true
      · rw [hy]
        have hy' : f.count = 0 ∨ (ruleT n hn).goes a f.adr p := by
          rw [Bool.or_eq_true, decide_eq_true_eq, goesB_iff] at hy
          exact hy
        have Ho := Lib.hid (HK.out.out hlt Ht.out Hf.out hy')
        clear hy hy'
        go_wp2_with fail
        go_ret2
        exact ⟨_, rfl, .inr ⟨rfl, Ho.out⟩, by rw [hN]; exact HB3.out⟩
      · rw [Bool.eq_false_iff.2 hy]
        have hc : f.count ≠ 0 := fun h0 => hy (by simp [h0])
        clear hy
        have c0 := hT3.ptr.cell
        have ra := Lib.hid (ent_adr hT3.row Hf.out)
        have HszF := Lib.hid (adr_size f.adr)
        have HT3 := Lib.hid hT3
        have HA3 := Lib.hid hA3
        have q3 := Lib.hid (row_range hA3.drew)
        clear hT3 hA3
        have hp' : (p : Int) < (n : Int) := by omega
        have hp0 : (0 : Int) ≤ (p : Int) := by omega
        go_wp2_with fail
        refine wp_region_still_lit (by kernel_rfl) (by kernel_rfl) ?_
        iterate 7 still_step
        refine wpStill_exec (.agg (cells f.adr.1).toArray) rfl (by refine exec_load_mid 30 (.tmp 27) ?_ g (p * 34) ?_ (cells f.adr.1) _ ra.out Try.underlying30 rfl HszF.out <;> rfl) ?_
        try simp only [Act.put, List.setIfInBounds_toArray, List.set_cons_zero, List.set_cons_succ]
        refine wpStill_exec (.agg (cells a.1).toArray) rfl (by refine exec_load_mid 30 (.tmp 3) ?_ N 0 ?_ (cells a.1) _ q3.out Try.underlying30 rfl HszA.out <;> rfl) ?_
        try simp only [Act.put, List.setIfInBounds_toArray, List.set_cons_zero, List.set_cons_succ]
        refine wpStill_exec (.bool (f.adr.1 == a.1)) rfl (by refine exec_eql_bytes 30 (.tmp 28) (.tmp 29) 30 ?_ Try.underlying30 Try.underlying5 (by kernel_rfl) (by kernel_rfl) ?_ ?_ f.adr.2 a.2 <;> rfl) ?_
        try simp only [Act.put, List.setIfInBounds_toArray, List.set_cons_zero, List.set_cons_succ]
        refine wpStill_nil ?_
        change Exit.then _ _ _ _ w3.drew
        by_cases ha : f.adr = a
        · have hb : (f.adr.1 == a.1) = true := by rw [ha]; exact beq_self_eq_true _
          rw [hb]
          go_wp2_with fail
          go_ret2
          exact ⟨_, rfl, .inl ⟨p, f, rfl, Hf.out, hc, ha⟩, by rw [hN]; exact HB3.out.drew⟩
        · have hb : (f.adr.1 == a.1) = false := by rw [beq_eq_false_iff_ne]; exact fun e => ha (Subtype.ext e)
          rw [hb]
          have HK1 := Lib.hid (HK.out.next hlt Hf.out (.inr ha))
          have HTd : Hid (TabAt w3.drew b g c n l) := HT3.out.drew
          have HBd : Hid (Below N w w3.drew) := HB3.out.drew
          have HAd : Hid (RowV w3.drew N 30 (cells a.1)) := HA3.out.drew
          clear hb c0 ra q3
          go_wp2_with fail
          refine (tafter_any _ b g c n l HTd.out p hp).mono ?_
          rintro r w4 ⟨rfl, rfl⟩
          have hnp := nextP_lt hp
          go_wp2_with fail
          go_roundw
          case rel => exact ⟨i + 1, nextP n p, by omega, hnp, by go_num, rfl, HK1, HBd, HAd⟩
          case measure => simp [intOf]; omega
    · obtain rfl : i = n := by omega
      have Ho := Lib.hid (HK.out.all Hl.out)
      go_wp2_with fail
      go_ret2
      exact ⟨_, rfl, .inr ⟨rfl, Ho.out⟩, by rw [hN]; exact HB.out⟩
end Go.Proofs.Ytiglffkbaddefaa
namespace Go.Proofs.Ytiglffkbaddefaa
open Go.RowKit
set_option linter.unusedVariables false
set_option linter.unusedSimpArgs false

/-- How many rounds an insertion still takes at most: the entry on its way lies in block N. -/
def leftI (W : World) (N n z p : Nat) : Nat := match W.cell? ⟨N, 33, none⟩ with
  | some (.int _ x) => if x = 0 then 0 else farF n p z + 1
  | _ => 0
theorem leftI_row {W : World} {N n z p : Nat} {t : TypeId} {x : Ent} (h : RowV W N t x.cs) : leftI W N n z p = if x.count = 0 then 0 else farF n p z + 1 := by
  unfold leftI
  rw [h.cell x.get_count]
/-- An insertion under way: the entry x stands before place p, or it is laid and x is none. -/
def Going (n : Nat) (hn : 0 < n) (S : Ent → Prop) (c z : Nat) (l : List Ent) (x : Ent) (p : Nat) : Prop :=
  (x.count ≠ 0 ∧ Ins n hn S c l x p ∧ layT l z = none) ∨ (x.count = 0 ∧ Tb n hn l ∧ cntT l = c + 1 ∧ ∀ y : Ent, (y ∈ l ∧ y.count ≠ 0) ↔ S y)

section
variable {n : Nat} {hn : 0 < n} {S : Ent → Prop} {c z : Nat} {l : List Ent} {x f : Ent} {p : Nat}
theorem Going.real (h : Going n hn S c z l x p) (hx : x.count ≠ 0) : Ins n hn S c l x p ∧ layT l z = none := by
  rcases h with ⟨_, h⟩ | ⟨h0, _⟩
  · exact h
  · exact absurd h0 hx
theorem Going.pass (h : Going n hn S c z l x p) (hx : x.count ≠ 0) (hf : l[p]? = some f) (cf : f.count ≠ 0) (hg : ¬ (ruleT n hn).goes x.adr f.adr p) (hz : z < n) : Going n hn S c z l x (nextP n p) ∧ farF n (nextP n p) z + 1 = farF n p z :=
  ⟨.inl ⟨hx, ((h.real hx).1.pass hf cf hg).1, (h.real hx).2⟩, (h.real hx).1.toward hf cf hz (h.real hx).2⟩
theorem Going.swap (h : Going n hn S c z l x p) (hx : x.count ≠ 0) (hf : l[p]? = some f) (cf : f.count ≠ 0) (hg : (ruleT n hn).goes x.adr f.adr p) (hz : z < n) : Going n hn S c z (l.set p x) f (nextP n p) ∧ farF n (nextP n p) z + 1 = farF n p z := by
  obtain ⟨h1, h2⟩ := h.real hx
  have hzp : z ≠ p := by rintro rfl; rw [layT_at hf, if_neg cf] at h2; cases h2
  refine ⟨.inl ⟨cf, (h1.swapped hf cf hg).1, ?_⟩, h1.toward hf cf hz h2⟩
  rw [layT_set (by rw [h1.len]; exact h1.at_) hx, putP_other _ _ hzp]
  exact h2
theorem Going.rest (h : Going n hn S c z l x p) (hx : x.count ≠ 0) (hf : l[p]? = some f) (cf : f.count = 0) : Going n hn S c z (l.set p x) f (nextP n p) :=
  .inr ⟨cf, (h.real hx).1.rest hf cf⟩
end

set_option maxRecDepth 100000 in
set_option maxHeartbeats 8000000 in
theorem tinsert_any (w : World) (b g c n : Nat) (hn : 0 < n) (l : List Ent) (h : TabAt w b g c n l) (ht : Tb n hn l) (e : Ent) (he : e.count ≠ 0) (hnew : ∀ f ∈ l, f.count ≠ 0 → f.adr ≠ e.adr) (hroom : cntT l + 1 < n) :
    Calls Try.prog 28 #[.pointer (some ⟨b, 0, none⟩), e.val] w fun r w' => r = .returned (.tuple #[]) ∧ ∃ l', TabAt w' b g c n l' ∧ Tb n hn l' ∧ cntT l' = cntT l + 1 ∧ (∀ y : Ent, (y ∈ l' ∧ y.count ≠ 0) ↔ ((y ∈ l ∧ y.count ≠ 0) ∨ y = e)) ∧ But [g] w.heap.size w w' := by
  have hle := h.le
  have hcap := h.cap
  have hbl := h.blt
  have hgl := h.glt
  have Hh := Lib.hid h
  obtain ⟨z, hz, hzn⟩ := cntT_room (l := l) (by rw [ht.len]; omega)
  rw [ht.len] at hz
  have HG : Hid (Going n hn (fun y => (y ∈ l ∧ y.count ≠ 0) ∨ y = e) (cntT l) z l e ((ruleT n hn).home e.adr)) := .inl ⟨he, ht.ins he hnew hroom, hzn⟩
  have hh : (ruleT n hn).home e.adr < n := (ruleT n hn).home_lt e.adr
  obtain ⟨S, hS⟩ : ∃ S, (fun y : Ent => (y ∈ l ∧ y.count ≠ 0) ∨ y = e) = S := ⟨_, rfl⟩
  rw [hS] at HG
  have HS := Lib.hid hS
  obtain ⟨m, hm⟩ : ∃ m, cntT l = m := ⟨_, rfl⟩
  rw [hm] at HG hroom
  have HM := Lib.hid hm
  clear h ht hnew hzn hS hm
  go_enter Try.func28, Try.ntmps28
  go_wp2_with ((with_reducible refine at_box 32 ?_); refine wpList_box_rowV rfl 32 _ rfl e.cs rfl ?_)
  intro w1 hr1 hb1 hs1
  have hT1 := Hh.out.later hb1
  have HszA := Lib.hid (adr_size e.adr)
  have q1 : Hid (w1.rangeAt w.heap.size 0 (cells e.adr.1)) := fun j u hj => (row_range hr1) j u (by rw [Ent.get_adr e j (by have := (List.getElem?_eq_some_iff.1 hj).1; rw [cells_length, e.adr.2] at this; exact this)]; exact hj)
  go_wp2_with ((with_reducible refine at_load 30 ?_); refine wpList_load_mid rfl 30 _ rfl w.heap.size 0 rfl (cells e.adr.1) _ q1.out Try.underlying30 rfl HszA.out ?_)
  refine (thome_any w1 b g c n hn l hT1 e.adr).mono ?_
  rintro r w2 ⟨rfl, hb2⟩
  have HT2 : Hid (TabAt w2 b g c n l) := hT1.later hb2
  have HR2 : Hid (RowV w2 w.heap.size 32 e.cs) := hr1.below (by omega) hb2
  have HB2 : Hid (But [g] w.heap.size w w2) := But.of _ (hb1.trans (hb2.mono (by omega)))
  generalize (ruleT n hn).home e.adr = p0 at *
  obtain ⟨N, hN⟩ : ∃ N, w.heap.size = N := ⟨_, rfl⟩
  rw [hN] at HB2 HR2 hbl hgl ⊢
  clear hr1 hb1 hs1 hT1 hb2 q1
  go_wp2_with fail
  go_loopw [4] (fun s W => ∃ (p : Nat) (l' : List Ent) (x : Ent), p < n ∧ s = .int .i64 p ∧ Hid (Going n hn S m z l' x p) ∧ Hid (TabAt W b g c n l') ∧ Hid (RowV W N 32 x.cs) ∧ Hid (But [g] N w W)) (fun s W => leftI W N n z (intOf s).toNat)
  case atStart => exact ⟨p0, l, e, hh, rfl, HG, HT2, HR2, HB2⟩
  case round =>
    obtain ⟨p, l', x, hp, rfl, HK, HT, HR, HB⟩ := hrel
    have c1 := HR.out.cell x.get_count
    have hml := leftI_row (n := n) (z := z) (p := p) HR.out
    by_cases hx : x.count = 0
    · have hfin : Tb n hn l' ∧ cntT l' = m + 1 ∧ ∀ y : Ent, (y ∈ l' ∧ y.count ≠ 0) ↔ S y := by
        rcases HK.out with ⟨h0, _⟩ | ⟨_, h1⟩
        · exact absurd hx h0
        · exact h1
      have Hfin := Lib.hid hfin
      have hd : (x.count == 0) = true := by rw [beq_iff_eq]; exact hx
      clear hfin
      go_wp2_with fail
      (try simp only [Exit.inBlock, Exit.then]); refine bodyPost_end (results_none rfl _ _ _) rfl ?_
      exact ⟨rfl, l', HT.out, Hfin.out.1, by rw [HM.out]; exact Hfin.out.2.1, fun y => by have := Hfin.out.2.2 y; rw [← HS.out] at this; exact this, by rw [hN]; exact HB.out⟩
    · obtain ⟨f, hf⟩ := HT.out.get hp
      have Hf := Lib.hid hf
      have hd : (x.count == 0) = false := by rw [beq_eq_false_iff_ne]; exact hx
      have Hx := Lib.hid hx
      have HszX := Lib.hid (adr_size x.adr)
      have qx : Hid (wr.rangeAt N 0 (cells x.adr.1)) := fun j u hj => (row_range HR.out) j u (by rw [Ent.get_adr x j (by have := (List.getElem?_eq_some_iff.1 hj).1; rw [cells_length, x.adr.2] at this; exact this)]; exact hj)
      clear hf
      go_wp2_with ((with_reducible refine at_load 30 ?_); refine wpList_load_mid rfl 30 _ rfl N 0 rfl (cells x.adr.1) _ qx.out Try.underlying30 rfl HszX.out ?_)
      refine (tyields_any wr b g c n hn l' HT.out p f Hf.out x.adr).mono ?_
      rintro r w3 ⟨rfl, hb3⟩
      have HNr : Hid (N < wr.heap.size) := HR.out.lt
      have HB3 : Hid (But [g] N w w3) := HB.out.trans (But.of _ (hb3.mono (by have := HNr.out; omega)))
      have HR3 : Hid (RowV w3 N 32 x.cs) := HR.out.below HNr.out hb3
      have HT3 : Hid (TabAt w3 b g c n l') := HT.out.later hb3
      have hsz3 : N < w3.heap.size := HR3.out.lt
      rw [if_neg hx] at hml
      have Hml := Lib.hid hml
      have hnp := nextP_lt hp
      clear hb3 qx c1 hml HT HR HB HNr HT2 HR2 HB2 HG
      by_cases hy : (decide (f.count = 0) || goesB n hn x.adr f.adr p) = true
      · rw [hy]
        have hp' : (p : Int) < (n : Int) := by omega
        have hp0 : (0 : Int) ≤ (p : Int) := by omega
        have c0 := HT3.out.ptr.cell
        have HTd : Hid (TabAt w3.drew b g c n l') := HT3.out.drew
        have HRd : Hid (RowV w3.drew N 32 x.cs) := HR3.out.drew
        have HBd : Hid (But [g] N w w3.drew) := HB3.out.drew
        have hszd : N < w3.drew.heap.size := hsz3
        have qN := Lib.hid (row_range HRd.out)
        have qF : Hid (w3.drew.rangeAt g (p * 34) f.cs) := ent_range HTd.out.row Hf.out
        have Hsx := Lib.hid (ent_size x)
        have Hsf := Lib.hid (ent_size f)
        clear HT3 HR3 HB3 hsz3
        go_wp2_with fail
        refine wp_region_still_tail 14 (by kernel_rfl) (by kernel_rfl) ?_
        simp only [List.take_succ_cons, List.take_zero, List.drop_succ_cons, List.drop_zero]
        iterate 5 still_step
        refine wpStill_exec (.agg x.cs.toArray) rfl (by refine exec_load_mid 32 (.tmp 3) ?_ N 0 ?_ x.cs _ qN.out Try.underlying32 rfl Hsx.out <;> rfl) ?_
        try simp only [Act.put, List.setIfInBounds_toArray, List.set_cons_zero, List.set_cons_succ]
        iterate 6 still_step
        refine wpStill_exec (.agg f.cs.toArray) rfl (by refine exec_load_mid 32 (.tmp 31) ?_ g (p * 34) ?_ f.cs _ qF.out Try.underlying32 rfl Hsf.out <;> rfl) ?_
        try simp only [Act.put, List.setIfInBounds_toArray, List.set_cons_zero, List.set_cons_succ]
        still_step
        refine wpStill_nil ?_
        change wpList _ _ _ _ _ w3.drew
        have hthere := HTd.out.there hp
        have hset := HTd.out.set hp x
        have Hset := Lib.hid hset
        clear hset
        generalize w3.drew = wd at *
        go_wp2_with (first
          | ((with_reducible refine at_store 32 ?_); refine wpList_store_midV rfl 32 _ _ rfl g (p * 34) x.cs rfl rfl (by rw [List.size_toArray, Ent.cs_length]; exact hthere) (by rw [List.size_toArray]; exact ent_size _) (all_oneCell_toArray (Ent.one _)) ?_; intro w4 hw4; have hr4 : RowV w4 N 32 x.cs := by rw [hw4]; exact HRd.out.keep Hset.out.2 (fun e => by injection e with e; omega))
          | ((with_reducible refine at_store 32 ?_); refine wpList_store_rowV rfl 32 _ _ rfl N f.cs rfl rfl 32 x.cs hr4 (by rw [List.size_toArray]; exact ent_size _) (by rw [List.size_toArray, List.size_toArray, Ent.cs_length, Ent.cs_length]) (all_oneCell_toArray (Ent.one _)) ?_; intro w5 hr5 hg5 hs5))
        have hg4 : wd.grownBy w4 (some g) := by rw [hw4]; exact Hset.out.2
        have hT4 : TabAt w4 b g c n (l'.set p x) := by rw [hw4]; exact Hset.out.1
        have HT5 : Hid (TabAt w5 b g c n (l'.set p x)) := hT4.keep hg5 (fun e => by injection e with e; omega) (fun e => by injection e with e; omega)
        have hB4 : But [g] N w w4 := HBd.out.grown hg4 (fun k e => by injection e with e; left; simp [e]) (by omega)
        have HB5 : Hid (But [g] N w w5) := hB4.grown hg5 (fun k e => by injection e with e; right; omega) (by have := hg4.size; omega)
        have HR5 := Lib.hid hr5
        have hnext : Going n hn S m z (l'.set p x) f (nextP n p) ∧ leftI w5 N n z (nextP n p) < farF n p z + 1 := by
          by_cases cf : f.count = 0
          · refine ⟨HK.out.rest Hx.out Hf.out cf, ?_⟩
            rw [leftI_row hr5, if_pos cf]
            omega
          · have hg' : (ruleT n hn).goes x.adr f.adr p := by
              rw [Bool.or_eq_true, decide_eq_true_eq, goesB_iff] at hy
              exact hy.resolve_left cf
            obtain ⟨h1, h2⟩ := HK.out.swap Hx.out Hf.out cf hg' hz
            refine ⟨h1, ?_⟩
            rw [leftI_row hr5, if_neg cf]
            omega
        have H1 := Lib.hid hnext.1
        have H2 := Lib.hid hnext.2
        clear hnext hT4 hB4 hg4 hw4 hr4 hr5 hg5 hs5 Hset hthere HTd HRd HBd qN qF c0 hy
        refine (tafter_any _ b g c n (l'.set p x) HT5.out p hp).mono ?_
        rintro r w6 ⟨rfl, rfl⟩
        go_wp2_with fail
        go_roundw
        case rel => exact ⟨nextP n p, l'.set p x, f, hnp, rfl, H1, HT5, HR5, HB5⟩
        case measure =>
          show leftI _ N n z (intOf (Value.int IntKind.i64 ((nextP n p : Nat) : Int))).toNat < leftI _ N n z (intOf (Value.int IntKind.i64 (p : Int))).toNat
          simp only [intOf, Int.toNat_natCast]
          rw [Hml.out]
          exact H2.out
      · rw [Bool.eq_false_iff.2 hy]
        have cf : f.count ≠ 0 := fun h0 => hy (by simp [h0])
        have hg' : ¬ (ruleT n hn).goes x.adr f.adr p := fun h0 => hy (by rw [goesB_iff.2 h0]; simp)
        obtain ⟨h1, h2⟩ := HK.out.pass Hx.out Hf.out cf hg' hz
        have H1 := Lib.hid h1
        have H2 := Lib.hid h2
        clear h1 h2 hy
        go_wp2_with fail
        refine (tafter_any _ b g c n l' HT3.out p hp).mono ?_
        rintro r w4 ⟨rfl, rfl⟩
        go_wp2_with fail
        go_roundw
        case rel => exact ⟨nextP n p, l', x, hnp, rfl, H1, HT3, HR3, HB3⟩
        case measure =>
          show leftI _ N n z (intOf (Value.int IntKind.i64 ((nextP n p : Nat) : Int))).toNat < leftI _ N n z (intOf (Value.int IntKind.i64 (p : Int))).toNat
          simp only [intOf, Int.toNat_natCast]
          rw [leftI_row HR3.out, if_neg Hx.out, Hml.out]
          have := H2.out
          omega
end Go.Proofs.Ytiglffkbaddefaa
namespace Go.Proofs.Ytiglffkbaddefaa
open Go.RowKit
set_option linter.unusedVariables false
set_option linter.unusedSimpArgs false

/-- What Put makes of a table, and what it answers. -/
structure PutP (n : Nat) (hn : 0 < n) (l : List Ent) (e : Ent) (code : Int) (l' : List Ent) : Prop where
  tb : Tb n hn l'
  what : (¬ e.ok ∧ code = 2 ∧ l' = l) ∨
    (e.ok ∧ (∃ f ∈ l, f.count ≠ 0 ∧ f.adr = e.adr) ∧ code = 0 ∧ cntT l' = cntT l ∧ ∀ x : Ent, x.count ≠ 0 → (x ∈ l' ↔ (x ∈ l ∧ x.adr ≠ e.adr) ∨ x = e)) ∨
    (e.ok ∧ (∀ f ∈ l, f.count ≠ 0 → f.adr ≠ e.adr) ∧ n ≤ cntT l + 1 ∧ code = 6 ∧ l' = l) ∨
    (e.ok ∧ (∀ f ∈ l, f.count ≠ 0 → f.adr ≠ e.adr) ∧ cntT l + 1 < n ∧ code = 0 ∧ cntT l' = cntT l + 1 ∧ ∀ x : Ent, x.count ≠ 0 → (x ∈ l' ↔ (x ∈ l ∧ x.adr ≠ e.adr) ∨ x = e))
theorem Ent.ok.real {e : Ent} (h : e.ok) : e.count ≠ 0 := by have := h.1; omega

set_option maxRecDepth 100000 in
set_option maxHeartbeats 8000000 in
theorem tput_any (w : World) (b g c n : Nat) (hn : 0 < n) (l : List Ent) (h : TabAt w b g c n l) (ht : Tb n hn l) (e : Ent) :
    Calls Try.prog 9 #[.pointer (some ⟨b, 0, none⟩), e.val] w fun r w' => ∃ code l', r = .returned (.int .i64 code) ∧ TabAt w' b g c n l' ∧ PutP n hn l e code l' ∧ But [g] w.heap.size w w' := by
  have hle := h.le
  have hcap := h.cap
  have hbl := h.blt
  have hgl := h.glt
  have Hh := Lib.hid h
  have Ht := Lib.hid ht
  have Hse := Lib.hid (ent_size e)
  have HszA := Lib.hid (adr_size e.adr)
  clear h ht
  go_enter Try.func9, Try.ntmps9
  go_wp2_with ((with_reducible refine at_box 32 ?_); refine wpList_box_rowV rfl 32 _ rfl e.cs rfl ?_)
  intro w1 hr1 hb1 hs1
  have hT1 := Hh.out.later hb1
  have q1 := Lib.hid (row_range hr1)
  go_wp2_with ((with_reducible refine at_load 32 ?_); refine wpList_load_mid rfl 32 _ rfl w.heap.size 0 rfl e.cs _ q1.out Try.underlying32 rfl Hse.out ?_)
  refine (tvalid_any w1 e).mono ?_
  rintro r w2 ⟨rfl, hb2⟩
  have HT2 : Hid (TabAt w2 b g c n l) := hT1.later hb2
  have HR2 : Hid (RowV w2 w.heap.size 32 e.cs) := hr1.below (by omega) hb2
  have HB2 : Hid (Below w.heap.size w w2) := hb1.trans (hb2.mono (by omega))
  clear hr1 hb1 hs1 hT1 hb2 q1
  by_cases hok : e.ok
  · rw [decide_eq_true hok]
    have Hok := Lib.hid hok
    have q2 : Hid (w2.rangeAt w.heap.size 0 (cells e.adr.1)) := fun j u hj => (row_range HR2.out) j u (by rw [Ent.get_adr e j (by have := (List.getElem?_eq_some_iff.1 hj).1; rw [cells_length, e.adr.2] at this; exact this)]; exact hj)
    obtain ⟨N, hN⟩ : ∃ N, w.heap.size = N := ⟨_, rfl⟩
    rw [hN] at HB2 HR2 hbl hgl q2 ⊢
    go_wp2_with ((with_reducible refine at_load 30 ?_); refine wpList_load_mid rfl 30 _ rfl N 0 rfl (cells e.adr.1) _ q2.out Try.underlying30 rfl HszA.out ?_)
    refine (tfind_any w2 b g c n hn l HT2.out Ht.out e.adr).mono ?_
    rintro r w3 ⟨v, rfl, hf, hb3⟩
    have hNs : N < w2.heap.size := HR2.out.lt
    have HT3 : Hid (TabAt w3 b g c n l) := HT2.out.later hb3
    have HR3 : Hid (RowV w3 N 32 e.cs) := HR2.out.below hNs hb3
    have HB3 : Hid (Below N w w3) := HB2.out.trans (hb3.mono (by omega))
    clear HT2 HR2 HB2 hb3 hNs q2
    rcases hf with ⟨k, f, rfl, hk, hc, ha⟩ | ⟨rfl, hno⟩
    · have hkn : k < n := by have := (List.getElem?_eq_some_iff.1 hk).1; rw [HT3.out.len] at this; exact this
      have hk' : (k : Int) < (n : Int) := by omega
      have hk0 : (0 : Int) ≤ (k : Int) := by omega
      have c0 := HT3.out.ptr.cell
      have HTd : Hid (TabAt w3.drew b g c n l) := HT3.out.drew
      have HRd : Hid (RowV w3.drew N 32 e.cs) := HR3.out.drew
      have HBd : Hid (Below N w w3.drew) := HB3.out.drew
      have hszd : N < w3.drew.heap.size := HR3.out.lt
      have qN := Lib.hid (row_range HRd.out)
      have hthere := HTd.out.there hkn
      have Hset := Lib.hid (HTd.out.set hkn e)
      obtain ⟨r1, r2, r3⟩ := Ht.out.replace hk hc Hok.out.real ha.symm
      have Hp : Hid (PutP n hn l e 0 (l.set k e)) := ⟨r1, .inr (.inl ⟨Hok.out, ⟨f, List.mem_of_getElem? hk, hc, ha⟩, rfl, r2, r3⟩)⟩
      clear HT3 HR3 HB3 r1 r2 r3 hk hc ha
      go_wp2_with fail
      refine wp_region_still_tail 7 (by kernel_rfl) (by kernel_rfl) ?_
      simp only [List.take_succ_cons, List.take_zero, List.drop_succ_cons, List.drop_zero]
      iterate 5 still_step
      refine wpStill_exec (.agg e.cs.toArray) rfl (by refine exec_load_mid 32 (.tmp 3) ?_ N 0 ?_ e.cs _ qN.out Try.underlying32 rfl Hse.out <;> rfl) ?_
      try simp only [Act.put, List.setIfInBounds_toArray, List.set_cons_zero, List.set_cons_succ]
      still_step
      refine wpStill_nil ?_
      change wpList _ _ _ _ _ w3.drew
      generalize w3.drew = wd at *
      go_wp2_with ((with_reducible refine at_store 32 ?_); refine wpList_store_midV rfl 32 _ _ rfl g (k * 34) e.cs rfl rfl (by rw [List.size_toArray, Ent.cs_length]; exact hthere) (by rw [List.size_toArray]; exact ent_size _) (all_oneCell_toArray (Ent.one _)) ?_; intro w4 hw4)
      go_ret
      have hg4 : wd.grownBy w4 (some g) := by rw [hw4]; exact Hset.out.2
      have hB : But [g] N w w4 := (But.of [g] HBd.out).grown hg4 (fun k e => by injection e with e; left; simp [e]) (by omega)
      exact ⟨0, _, rfl, Hset.out.1, Hp.out, by rw [hN, ← hw4]; exact hB⟩
    · have Hno := Lib.hid hno
      clear hno
      go_wp2_with fail
      refine (tsize_any w3 b g c n l HT3.out).mono ?_
      rintro r w4 ⟨rfl, hw⟩
      rw [hw]
      clear hw w4
      go_wp2_with fail
      refine (tlen_any w3 b g c n l HT3.out).mono ?_
      rintro r w4 ⟨rfl, hw⟩
      rw [hw]
      clear hw w4
      have hroom := Ht.out.room
      obtain ⟨m, hm⟩ : ∃ m, cntT l = m := ⟨_, rfl⟩
      rw [hm] at hroom ⊢
      by_cases hfull : n ≤ m + 1
      · have hd : decide ((n : Int) - (m : Int) ≤ 1) = true := decide_eq_true (by omega)
        have Hp : Hid (PutP n hn l e 6 l) := ⟨Ht.out, .inr (.inr (.inl ⟨Hok.out, Hno.out, by omega, rfl, rfl⟩))⟩
        go_wp2_with fail
        go_ret
        exact ⟨6, l, rfl, HT3.out, Hp.out, But.of _ (by rw [hN]; exact HB3.out)⟩
      · have hd : decide ((n : Int) - (m : Int) ≤ 1) = false := decide_eq_false (by omega)
        have q3 := Lib.hid (row_range HR3.out)
        have hroom2 : Hid (cntT l + 1 < n) := by show _ < _; omega
        go_wp2_with ((with_reducible refine at_load 32 ?_); refine wpList_load_mid rfl 32 _ rfl N 0 rfl e.cs _ q3.out Try.underlying32 rfl Hse.out ?_)
        refine (tinsert_any w3 b g c n hn l HT3.out Ht.out e Hok.out.real Hno.out hroom2.out).mono ?_
        rintro r w4 ⟨rfl, l', hT4, ht4, hc4, hm4, hB4⟩
        have Hp : Hid (PutP n hn l e 0 l') := ⟨ht4, .inr (.inr (.inr ⟨Hok.out, Hno.out, hroom2.out, rfl, hc4, fun x hx => ⟨fun hi => ((hm4 x).1 ⟨hi, hx⟩).imp (fun h => ⟨h.1, Hno.out x h.1 hx⟩) id, fun hi => ((hm4 x).2 (hi.imp (fun h => ⟨h.1, hx⟩) id)).1⟩⟩))⟩
        have HT4 := Lib.hid hT4
        have HB4 : Hid (But [g] N w w4) := (But.of [g] HB3.out).trans (hB4.less (by have := HR3.out.lt; omega))
        clear hT4 ht4 hc4 hm4 hB4
        go_wp2_with fail
        go_ret
        exact ⟨0, l', rfl, HT4.out, Hp.out, by rw [hN]; exact HB4.out⟩
  · rw [decide_eq_false hok]
    have Hp : Hid (PutP n hn l e 2 l) := ⟨Ht.out, .inl ⟨hok, rfl, rfl⟩⟩
    go_wp2_with fail
    go_ret
    exact ⟨2, l, rfl, HT2.out, Hp.out, But.of _ HB2.out⟩
end Go.Proofs.Ytiglffkbaddefaa
