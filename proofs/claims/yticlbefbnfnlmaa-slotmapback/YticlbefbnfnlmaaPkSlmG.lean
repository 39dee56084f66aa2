/-
  Layer 10: the contract of Take.
-/
import Derived.Test.YticlbefbnfnlmaaPkSlmD
import Derived.Test.YticlbefbnfnlmaaPkSlmE
import Derived.Deep.RegionHeld3
namespace Go.Proofs.Yticlbefbnfnlmaa
open Go.RowKit Go.Shelf
set_option linter.unusedVariables false
set_option linter.unusedSimpArgs false
attribute [local go_sem] Oper.semAt_some

def vals {n : Nat} (l : List (Fin n)) : List Nat := l.map (·.1)
/-- Between two rounds of Take's loop, the slots of l being taken. -/
structure TakeI (N b g c : Nat) (ss : List UInt8) (k G T M : Nat) (w : World) (l : List Nat) (W : World) : Prop where
  le : l.length ≤ k
  oM : One W N (.pointer (some ⟨b, 0, none⟩)) 24
  oN : One W (N + 1) (.int .i64 (k : Int)) 3
  oT : One W T (.slice (some ⟨G, 0, none⟩) l.length k) 28
  row : W.ownsRow G 3 1 (.slice (some ⟨G, 0, none⟩) l.length k) l.length (nats l)
  map : MapAt W b g c (useL ss l)
  but : But [g] N w W
  size : M ≤ W.heap.size
theorem MapAt.stays {B : Nat} {W W' : World} {b g c : Nat} {ss : List UInt8} (h : MapAt W b g c ss) (hs : Stays10 B W W') : MapAt W' b g c ss := ⟨hs.one h.ptr, hs.own h.row, h.pos, h.le, h.ok⟩
theorem TakeI.stays {N b g c : Nat} {ss : List UInt8} {k G T M B : Nat} {w : World} {l : List Nat} {W W' : World} (h : TakeI N b g c ss k G T M w l W) (hN : N ≤ B) (hw : N ≤ w.heap.size) (hs : Stays10 B W W') : TakeI N b g c ss k G T M w l W' :=
  ⟨h.le, hs.one h.oM, hs.one h.oN, hs.one h.oT, hs.own h.row, h.map.stays hs, hs.but hN hw h.but, Nat.le_trans h.size hs.size⟩

set_option maxRecDepth 100000 in
set_option maxHeartbeats 4000000 in
theorem stake_any (w : World) (b g c : Nat) (ss : List UInt8) (h : MapAt w b g c ss) (n : Int) (hn64 : n ≤ 9223372036854775807) :
    Calls Try.prog 12 #[.pointer (some ⟨b, 0, none⟩), .int .i64 n] w fun e w' => ∃ v, e = .returned (.tuple #[v, .int .i64 (takeC ss n)]) ∧ w'.ownsRow w.heap.size 3 1 v (takeL ss n).length (nats (takeL ss n)) ∧ MapAt w' b g c (takeM ss n) ∧ But [g] w.heap.size w w' := by
  obtain ⟨i0, hi, hz0, hz1, hz2⟩ := info_parts Try.info3s
  have hbl := h.blt
  have hgl := h.glt
  have hle := h.le
  have hlen := ofS_length ss 0
  obtain ⟨w1, hw1⟩ : ∃ w1, (w.alloc (.cells #[.pointer (some ⟨b, 0, none⟩)] 24)).alloc (.cells #[.int .i64 n] 3) = w1 := ⟨_, rfl⟩
  have oM : One w1 w.heap.size (.pointer (some ⟨b, 0, none⟩)) 24 := by rw [← hw1]; exact (One.new w _ _).alloc _
  have oN : One w1 (w.heap.size + 1) (.int .i64 n) 3 := by
    have := One.new (w.alloc (.cells #[.pointer (some ⟨b, 0, none⟩)] 24)) (.int .i64 n) 3
    rw [hw1] at this
    simpa using this
  have hb1 : Below w.heap.size w w1 := by rw [← hw1]; exact ((Below.refl _ w).alloc (Nat.le_refl _) _).alloc (by simp) _
  have hs1 : w1.heap.size = w.heap.size + 2 := by rw [← hw1]; simp
  have h1 := h.later hb1
  refine calls_of_wp_marks Try.func12 rfl ?_
  simp only [Try.ntmps12, List.size_toArray, List.length_cons, List.length_nil, Nat.reduceAdd, Nat.reduceSub, Array.replicate_succ, Array.replicate_zero, List.push_toArray, List.append_toArray, List.nil_append, List.cons_append]
  generalize hN : w.heap.size = N at *
  have hM0 := oM.cell
  have hN0 := oN.cell
  by_cases hneg : n < 0
  · have Hc : Hid (takeC ss n = 1) := by show _ = _; unfold takeC; rw [if_pos hneg]
    have Hl : Hid (takeL ss n = []) := by show _ = _; unfold takeL; rw [if_neg (by rw [Hc.out]; decide)]
    have Hm : Hid (takeM ss n = ss) := by show _ = _; unfold takeM; rw [Hl.out]; rfl
    have H1 := Lib.hid h1
    have HB := Lib.hid hb1
    clear h h1 oM oN hb1
    go_wp2_with fail
    refine ⟨_, results_tmp2 rfl _ _ _, ?_⟩
    rw [Hc.out, Hl.out, Hm.out]
    exact ⟨.slice none 0 0, rfl, World.ownsRow_nil _ _ _ _, H1.out, But.of _ HB.out⟩
  · obtain ⟨k, rfl⟩ : ∃ k : Nat, n = k := ⟨n.toNat, by omega⟩
    have hk0 : (0 : Int) ≤ (k : Int) := by omega
    obtain ⟨f, hf⟩ : ∃ f, (ofS ss 0).length = f := ⟨_, rfl⟩
    have Hf := Lib.hid hf
    have hf200 : f ≤ 200 := by omega
    have H1 := Lib.hid h1
    have HB := Lib.hid hb1
    have HM := Lib.hid oM
    have HN := Lib.hid oN
    clear h h1 oM oN hb1 hlen hf hneg
    go_wp2_with fail
    have hd1 : MapAt w1.drew b g c ss := H1.out.drew
    have hdB : Below N w w1.drew := HB.out.drew
    have hdM : One w1.drew N (.pointer (some ⟨b, 0, none⟩)) 24 := HM.out
    have hdN : One w1.drew (N + 1) (.int .i64 (k : Int)) 3 := HN.out
    have hds : w1.drew.heap.size = N + 2 := hs1
    clear H1 HB HM HN hM0 hN0 hw1 hs1
    obtain ⟨wd, hwd⟩ : ∃ wd, w1.drew = wd := ⟨_, rfl⟩
    have hSc : Below wd.heap.size wd w1.drew := by rw [hwd]; exact Below.refl _ _
    rw [hwd] at hd1 hdB hdM hdN hds
    refine wp_region_held_drew (S := fun W => Below wd.heap.size wd W) (by kernel_rfl) hSc (fun hHeld => ?_)
    rw [hwd] at hSc hHeld ⊢
    clear hwd
    have hltM := hdM.lt
    have hltN := hdN.lt
    have hcM := hdM.cell
    have hcN := hdN.cell
    refine wpAnyH_take (i := 0) (oi := ⟨_, _, _, _, _, _⟩) (v := ?_) rfl (by kernel_rfl) (by kernel_rfl) (by kernel_rfl) (fun _ _ _ h => h) (Or.inl ⟨by rfl, ?_⟩) (by assumption) ?_
    rotate_left
    · intro W hSW; have hq := (hSW.cell (p := ⟨N + 1, 0, none⟩) hltN).trans hcN; go_simp; try with_reducible rfl
    try simp only [Act.put, List.setIfInBounds_toArray, List.set_cons_zero, List.set_cons_succ]
    refine wpAnyH_take (i := 1) (oi := ⟨_, _, _, _, _, _⟩) (v := ?_) rfl (by kernel_rfl) (by kernel_rfl) (by kernel_rfl) (fun _ _ _ h => h) (Or.inl ⟨by rfl, ?_⟩) (by assumption) ?_
    rotate_left
    · intro W hSW; have hq := (hSW.cell (p := ⟨N, 0, none⟩) hltM).trans hcM; go_simp; try with_reducible rfl
    try simp only [Act.put, List.setIfInBounds_toArray, List.set_cons_zero, List.set_cons_succ]
    refine wpAnyH_ready (rs := [2]) (by kernel_rfl) (by simp) ?_
    refine AllReadyH.cons (o := ⟨_, _, _, _, _, _⟩) rfl (fun K hK => ?_) AllReadyH.nil
    go_simp
    refine (scount_any wd b g c ss hd1 0).mono ?_
    rintro e w2 ⟨rfl, hb2⟩
    try simp only []
    rw [Hf.out]
    have hS2 := hSc.trans (hb2.mono hSc.size)
    refine hK.out _ _ hS2 (fun hHeld => ?_)
    clear hK K hSc
    have hSc := hS2
    clear hS2 hb2
    try simp only [Act.put, List.setIfInBounds_toArray, List.set_cons_zero, List.set_cons_succ]
    by_cases hgt : (f : Int) < (k : Int)
    · have Hc : Hid (takeC ss (k : Int) = 6) := by show _ = _; unfold takeC; rw [if_neg (by omega), Hf.out, if_pos hgt]
      have Hl : Hid (takeL ss (k : Int) = []) := by show _ = _; unfold takeL; rw [if_neg (by rw [Hc.out]; decide)]
      have Hm : Hid (takeM ss (k : Int) = ss) := by show _ = _; unfold takeM; rw [Hl.out]; rfl
      refine wpAnyH_take (i := 3) (oi := ⟨_, _, _, _, _, _⟩) (v := .bool true) rfl (by kernel_rfl) (by kernel_rfl) (by kernel_rfl) (fun _ _ _ h => h) (Or.inl ⟨by rfl, ?_⟩) (by assumption) ?_
      · intro W hSW; go_simp; first | done | omega | (simp; done) | (simp; omega)
      try simp only [Act.put, List.setIfInBounds_toArray, List.set_cons_zero, List.set_cons_succ]
      refine wpAnyH_done (by kernel_rfl) ?_ _
      have H1 := Lib.hid (hd1.below hSc hd1.blt hd1.glt)
      have HB := Lib.hid (hdB.trans (hSc.mono (by omega)))
      clear hd1 hdB hSc hdM hdN hcM hcN
      go_wp2_with fail
      refine ⟨_, results_tmp2 rfl _ _ _, ?_⟩
      rw [Hc.out, Hl.out, Hm.out]
      exact ⟨.slice none 0 0, rfl, World.ownsRow_nil _ _ _ _, H1.out, But.of _ (by first | exact HB.out | (rw [hN]; exact HB.out))⟩
    · have hkf : (k : Int) ≤ (f : Int) := by omega
      have Hc : Hid (takeC ss (k : Int) = 0) := by show _ = _; unfold takeC; rw [if_neg (by omega), Hf.out, if_neg hgt]
      have Hl : Hid (takeL ss (k : Int) = (ofS ss 0).take k) := by show _ = _; unfold takeL; rw [if_pos Hc.out]; rfl
      refine wpAnyH_take (i := 3) (oi := ⟨_, _, _, _, _, _⟩) (v := .bool false) rfl (by kernel_rfl) (by kernel_rfl) (by kernel_rfl) (fun _ _ _ h => h) (Or.inl ⟨by rfl, ?_⟩) (by assumption) ?_
      · intro W hSW; go_simp; first | done | omega | (simp; done) | (simp; omega)
      try simp only [Act.put, List.setIfInBounds_toArray, List.set_cons_zero, List.set_cons_succ]
      refine wpAnyH_done (by kernel_rfl) ?_ _
      have hm2 := hd1.below hSc hd1.blt hd1.glt
      have oM2 := hdM.below hSc hltM
      have oN2 := hdN.below hSc hltN
      have hB2 := hdB.trans (hSc.mono (by omega))
      have hs2 : N + 2 ≤ w2.heap.size := by have := hSc.size; omega
      clear hd1 hdM hdN hdB hSc hltM hltN hcM hcN hgt
      have hcN := oN2.cell
      have hk200 : k ≤ 200 := by omega
      go_wp2_with (at_make; refine wpList_make_own _ rfl _ _ 28 rfl w2.heap.size 3 i0 (.int .i64 0) 1 Try.underlying28 hi hz0 hz1 .i64 .i64 _ k rfl rfl rfl (by rw [hz2]; omega) (by unfold maxLen; omega) (Nat.le_refl _) ?_)
      intro w3 hr3 hg3
      have hb3 : Below w2.heap.size w2 w3 := (Below.refl _ _).grown hg3 (Nat.le_refl _) (by simp)
      have hGl : w2.heap.size < w3.heap.size := own_lt hr3 rfl
      obtain ⟨w4, hw4⟩ : ∃ w4, w3.alloc (.cells #[.slice (some ⟨w2.heap.size, 0, none⟩) 0 k] 28) = w4 := ⟨_, rfl⟩
      have hb4 : Below w3.heap.size w3 w4 := by rw [← hw4]; exact (Below.refl _ _).alloc (Nat.le_refl _) _
      have oT4 : One w4 w3.heap.size (.slice (some ⟨w2.heap.size, 0, none⟩) 0 k) 28 := by rw [← hw4]; exact One.new w3 _ _
      have hs4 : w4.heap.size = w3.heap.size + 1 := by rw [← hw4]; simp
      have hr4 := own_below hr3 hb4
      have hm4 := (hm2.later hb3).later hb4
      have oM4 := (oM2.below hb3 (by omega)).below hb4 (by omega)
      have oN4 := (oN2.below hb3 (by omega)).below hb4 (by omega)
      have hB4 := (hB2.trans (hb3.mono (by omega))).trans (hb4.mono (by omega))
      clear hr3 hg3 hb3 hm2 oM2 oN2 hB2 hb4
      generalize hG : w2.heap.size = G at *
      generalize hT : w3.heap.size = T at *
      have hcM := oM4.cell
      go_wp2_with fail
      refine (sall_any _ b g c ss hm4 0).mono ?_
      rintro e w5 ⟨a', b', g', c', rfl, hI, hlt, hb5⟩
      have oT5 := oT4.below hb5 oT4.lt
      have hr5 := own_below hr4 hb5
      have hm5 := hm4.later hb5
      have oM5 := oM4.below hb5 oM4.lt
      have oN5 := oN4.below hb5 oN4.lt
      have hB5 := hB4.trans (hb5.mono (by omega))
      have hs5 := hb5.size
      have hlt2 : ∀ k ∈ [a', b', g'], T + 1 ≤ k := fun k hk => by have := hlt k hk; omega
      have hlt3 := hI.lt
      have hGT : G < T := by omega
      have hNG : N + 2 ≤ G := by omega
      clear oT4 hr4 hm4 oM4 oN4 hB4 hb5 hlt hGl hcM hcN hw4
      obtain ⟨M, hM⟩ : ∃ M, w5.heap.size = M := ⟨_, rfl⟩
      have hTM : T + 1 ≤ M := by omega
      clear hs5 hs4
      go_wp2_with fail
      refine wp_rangeFunc ?_
      refine wpIn_rangeFunc_ownG (F := Fence.wide) rfl (by omega) (gf := 32) (lb := #[.pointer (some ⟨a', 0, none⟩), .pointer (some ⟨b', 0, none⟩)]) rfl trivial (enters_of Try.func32 (by kernel_rfl) rfl)
        (siter_stops Fence.wide 2 trivial rfl (by omega) a' b' g' c' 0 ss w5 hI) (fun h k => h.trans k) (keepsL_b hI.lt) (Below.refl _ _) (fun _ => rfl)
        (fun pre W => TakeI N b g c ss k G T M w (vals pre) W)
        (fun cd pre W => cd = .exit 0 ∧ ∃ pre' x, pre = pre' ++ [x] ∧ pre'.length = k ∧ TakeI N b g c ss k G T M w (vals pre') W)
        (ownFrom_stays (fun s W W' h hs => h.stays (by omega) (by omega) hs))
        (fun _ => ownFrom_stays (fun s W W' h hs => by obtain ⟨h0, p, x, h1, h2, h3⟩ := h; exact ⟨h0, p, x, h1, h2, h3.stays (by omega) (by omega) hs⟩))
        ⟨Nat.zero_le _, oM5, oN5, oT5, hr5, hm5, But.of _ hB5, by omega⟩
        (fun x => { tmps := #[.pointer (some ⟨b, 0, none⟩), .int .i64 (k : Int), .pointer (some ⟨N, 0, none⟩), .pointer (some ⟨N + 1, 0, none⟩), .slice none 0 0, .int .i64 0, .pointer (some ⟨T, 0, none⟩), .int .i64 (x.1 : Int), .int .i64 (k : Int), .bool (decide ((k : Int) < 0)), .int .i64 (k : Int), .pointer (some ⟨b, 0, none⟩), .int .i64 (f : Int), .bool false, .int .i64 (k : Int), .slice (some ⟨G, 0, none⟩) 0 k, .pointer (some ⟨b, 0, none⟩), .func (.func 32) #[] #[.pointer (some ⟨a', 0, none⟩), .pointer (some ⟨b', 0, none⟩)], .int .i64 (x.1 : Int), undef, undef, undef, undef, undef, undef, undef, undef, undef, undef, undef, undef, undef, undef, undef], defers := [] }) ?assign ?body ?done ?stop
      case assign =>
        intro l x W K hK
        gi_wp2
        exact hK
      case body =>
        rintro l pre x W hT1 hpl
        obtain ⟨ys, hys⟩ : ∃ ys, vals pre = ys := ⟨_, rfl⟩
        rw [hys] at hT1
        have hcT := hT1.oT.cell
        have hcN := hT1.oN.cell
        have hcM := hT1.oM.cell
        have hcB := hT1.map.ptr.cell
        by_cases hq : ys.length = k
        · have hqb : ((k : Int) == (k : Int)) = true := by simp
          rw [hq] at hcT
          gi_wp2
          exact ⟨KeepsFrom.refl _ _, rfl, pre, x, rfl, by rw [← hq, ← hys]; simp [vals], by rw [hys]; exact hT1⟩
        · have hyk : ys.length < k := by have := hT1.le; omega
          have hqb : ((ys.length : Int) == (k : Int)) = false := by simp; omega
          have hx2 := x.2
          rw [useL_length] at hcB
          have hx3 : (x.1 : Int) < (ss.length : Int) := by omega
          have hcx := hT1.map.cell (i := x.1) (by rw [useL_length]; exact hx2)
          have hfx := hT1.map.free x.1
          have hgr := grown_cell10 W g x.1 (.int .u8 1)
          have hTg : T ≠ g := by omega
          obtain ⟨W2, hW2⟩ : ∃ W2, W.setCell ⟨g, x.1, none⟩ (.int .u8 1) = W2 := ⟨_, rfl⟩
          have oT2 : One W2 T (.slice (some ⟨G, 0, none⟩) ys.length k) 28 := by rw [← hW2]; exact hT1.oT.other hTg _
          have oM2 : One W2 N (.pointer (some ⟨b, 0, none⟩)) 24 := by rw [← hW2]; exact hT1.oM.other (by simp; omega) _
          have oN2 : One W2 (N + 1) (.int .i64 (k : Int)) 3 := by rw [← hW2]; exact hT1.oN.other (by simp; omega) _
          have rW2 : W2.ownsRow G 3 1 (.slice (some ⟨G, 0, none⟩) ys.length k) ys.length (nats ys) := by rw [← hW2]; exact hT1.row.kept hgr (.inr (fun e => by have e' : G = g := Option.some.inj e; omega))
          have mW2 : MapAt W2 b g c (useL ss (ys ++ [x.1])) := by
            rw [← hW2, useL_snoc]
            exact hT1.map.set (i := x.1) (x := 1) (by decide)
          have bW2 : But [g] N w W2 := by rw [← hW2]; exact hT1.but.setCell (p := ⟨g, x.1, none⟩) (.inl (by simp)) _
          have sW2 : Hid (W2.heap.size = W.heap.size) := by show _ = _; rw [← hW2]; simp
          have hcT2 := oT2.cell
          have hMs := hT1.size
          have hr2a := rW2.alloc (.cells #[.int .i64 (x.1 : Int)] 3)
          rw [hW2] at hgr
          gi_wp2_with (gi_at_builtin; refine wpListIn_append_fits _ rfl _ _ 28 rfl G 3 i0 1 Try.underlying28 hi hz1 G ys.length k (nats ys) rfl hr2a ⟨W2.heap.size, 0, none⟩ 1 1 [.int .i64 (x.1 : Int)] rfl rfl (cell_one_new _ _ _) (by simp [Value.oneCell']) (by omega) ?_)
          intro W3 hr3 hg3
          have hMs2 : M ≤ W2.heap.size := by rw [sW2.out]; exact hMs
          have oT3 : One W3 T (.slice (some ⟨G, 0, none⟩) ys.length k) 28 := (hg3.block T (by simp; omega) (fun e => by injection e with e; omega)).trans (oT2.alloc _)
          have hcT3 := oT3.cell
          have hfT3 := oT3.free
          gi_wp2
          have gT := grown_cell10 W3 T 0 (.slice (some ⟨G, 0, none⟩) (ys.length + 1) k)
          have oT4 := oT3.set (.slice (some ⟨G, 0, none⟩) (ys.length + 1) k)
          have oM3 : One W3 N (.pointer (some ⟨b, 0, none⟩)) 24 := (hg3.block N (by simp; omega) (fun e => by injection e with e; omega)).trans (oM2.alloc _)
          have oN3 : One W3 (N + 1) (.int .i64 (k : Int)) 3 := (hg3.block (N + 1) (by simp; omega) (fun e => by injection e with e; omega)).trans (oN2.alloc _)
          have mW3 := (mW2.later ((Below.refl _ W2).alloc (Nat.le_refl _) (.cells #[.int .i64 (x.1 : Int)] 3))).keep hg3 (fun e => by injection e with e; omega) (fun e => by injection e with e; omega)
          have bW3 := (bW2.alloc (by omega) (.cells #[.int .i64 (x.1 : Int)] 3)).grown hg3 (fun k e => by injection e with e; exact .inr (by omega)) (by simp; omega)
          have sW3 := hg3.size
          rw [World.size_alloc] at sW3
          have hv : vals (pre ++ [x]) = ys ++ [x.1] := by rw [← hys]; simp [vals]
          have hyl : (ys ++ [x.1]).length = ys.length + 1 := by simp
          refine ⟨?_, ?_, ?_⟩
          · refine ((KeepsFrom.of_grownBy hgr (fun j e => by injection e with e; omega)).trans ((KeepsOthers.alloc W2 _).from _)).trans ((KeepsFrom.of_grownBy hg3 (fun j e => by injection e with e; omega)).trans ((KeepsOthers.setCell _ _ _).from _))
          · intro j hj
            have q1 := hlt2 j hj
            have q2 := hlt3 j hj
            refine (gT.block j (by omega) (fun e => by injection e with e; omega)).trans ?_
            refine (hg3.block j (by simp; omega) (fun e => by injection e with e; omega)).trans ?_
            exact (Below.heap_alloc _ _ _ (by omega)).trans (hgr.block j (by omega) (fun e => by injection e with e; omega))
          · show TakeI N b g c ss k G T M w (vals (pre ++ [x])) _
            rw [hv]
            refine ⟨by omega, oM3.other (by simp; omega) _, oN3.other (by simp; omega) _, ?_, ?_, mW3.keep gT (fun e => by injection e with e; omega) (fun e => by injection e with e; omega), bW3.setCell (p := ⟨T, 0, none⟩) (.inr (by show _ ≤ T; omega)) _, by simp; omega⟩
            · rw [hyl]; exact oT4
            · rw [hyl, nats_snoc]
              exact hr3.kept gT (.inr (fun e => by have e' : G = T := Option.some.inj e; omega))
      case done =>
        rintro D ys W hD hS hT1 hK
        have hv : vals ys = ofS ss 0 := hS
        rw [hv] at hT1
        have Ht : Hid (takeL ss (k : Int) = ofS ss 0) := by
          have hfk : (ofS ss 0).length = k := by have := hT1.le; have := Hf.out; omega
          show _ = _
          rw [Hl.out, ← hfk, List.take_length]
        have hcT := hT1.oT.cell
        go_wp2_with fail
        refine ⟨by simp, .inl ⟨_, _, rfl, run_takeDeferred hK, ?_⟩⟩
        have hst := hT1.stays (by omega) (by omega) (stays_put hD hK (.deferred none))
        refine ⟨_, results_tmp2 rfl _ _ _, ?_⟩
        have hc0 := Hc.out
        rw [hc0, takeM, Ht.out]
        exact ⟨_, rfl, own_rebase hst.row (fun j e => by have := own_ge hst.row j e; omega), hst.map, by first | exact hst.but | (rw [hN]; exact hst.but)⟩
      case stop =>
        rintro D c2 pre W hD hp ⟨rfl, pre', x, rfl, hk', hT1⟩ hK
        have Ht : Hid (takeL ss (k : Int) = vals pre') := by
          show _ = _
          rw [Hl.out]
          have h1 : vals pre' <+: ofS ss 0 := by
            refine List.IsPrefix.trans ?_ hp
            rw [List.map_append]
            exact List.prefix_append _ _
          obtain ⟨t, ht⟩ := h1
          have hl : (vals pre').length = k := by rw [← hk']; simp [vals]
          rw [← ht, ← hl, List.take_left]
        clear hp hk'
        generalize vals pre' = ys at *
        have hcT := hT1.oT.cell
        gi_wp2
        go_wp2_with fail
        refine ⟨by simp, .inl ⟨_, _, rfl, run_takeDeferred hK, ?_⟩⟩
        have hst := hT1.stays (by omega) (by omega) (stays_put hD hK (.deferred none))
        refine ⟨_, results_tmp2 rfl _ _ _, ?_⟩
        have hc0 := Hc.out
        rw [hc0, takeM, Ht.out]
        exact ⟨_, rfl, own_rebase hst.row (fun j e => by have := own_ge hst.row j e; omega), hst.map, by first | exact hst.but | (rw [hN]; exact hst.but)⟩
end Go.Proofs.Yticlbefbnfnlmaa
